/- The parts Wf, Gc, Pm of the proof, joined. It holds without conditions of its own. -/
import Derived.Test.YtlfglbnbenaghaaGreatDoorTX18
import Derived.Test.YtlfglbnbenaghaaGreatDoorTX17
import Derived.Test.YtlfglbnbenaghaaGreatDoorTX15
import Derived.Test.YtlfglbnbenaghaaGreatDoorTX14
import Derived.Test.YtlfglbnbenaghaaGreatDoorTX10
/- Contract of itemsOf. -/
namespace Go.Proofs.YtlfglbnbenaghaaGreatDoor
set_option linter.unusedSimpArgs false
set_option linter.unusedVariables false
open Go Go.RowKit Go.Sort Go.BigFrame

theorem nil_or_snoc {α : Type} (xs : List α) : xs = [] ∨ ∃ zs x, xs = zs ++ [x] := by
  rcases List.eq_nil_or_concat xs with h | ⟨zs, x, h⟩
  · exact Or.inl h
  · exact Or.inr ⟨zs, x, by rw [h]; simp⟩
theorem GOk.chOk {g : Gth} (h : GOk g) : ∀ c ∈ g.chs, ChOk c := fun c hc => by
  obtain ⟨h1, h2, h3, h4, h5⟩ := h.ch hc
  have := h.leaves
  exact ⟨h1, h2, by omega, h4, by omega⟩
theorem itm1_ok {g : Gth} (h : GOk g) : ItOk (itm1 g) := ⟨h.sig, h.sig, by have := h.leaves; exact ⟨by show 0 ≤ g.leaves; omega, by show g.leaves < 100; omega⟩, h.few, h.chOk⟩
theorem ysStep_ok {ys : List (Itm × Value)} {z : Gth × Value} (h : ∀ y ∈ ys, ItOk y.1) (hz : GOk z.1) : ∀ y ∈ ysStep ys z, ItOk y.1 := by
  intro y hy
  rcases nil_or_snoc ys with rfl | ⟨zs, x, rfl⟩
  · simp only [ysStep, List.getLast?_nil, List.mem_singleton] at hy
    subst hy; exact itm1_ok hz
  · simp only [ysStep, List.getLast?_append, List.getLast?_singleton, Option.some_or] at hy
    split at hy
    · rcases List.mem_append.1 hy with hy | hy
      · exact h y (by simp at hy; simp [hy])
      · simp only [List.mem_singleton] at hy
        subst hy
        have hx := h x (by simp)
        exact ⟨hx.first, hz.sig, hx.leaves, hx.few, hx.chs⟩
    · rcases List.mem_append.1 hy with hy | hy
      · exact h y hy
      · simp only [List.mem_singleton] at hy; subst hy; exact itm1_ok hz
theorem itmsOf_take {gs : List Gth} {k : Nat} {g : Gth} (h : gs[k]? = some g) : itmsOf (gs.take (k + 1)) = itmStep (itmsOf (gs.take k)) g := by
  unfold itmsOf
  rw [(take_split h).2, List.foldl_append]; rfl

set_option maxRecDepth 100000 in
set_option maxHeartbeats 8000000 in
theorem itemsOf_any (gs : List Gth) (v : Value) (w : World) (hv : GsAt w.heap.size w v gs) (hok : ∀ g ∈ gs, GOk g) (hn : gs.length ≤ 100) :
    Calls Tryz.prog 24 #[v] w fun e w' => (∃ v' ys, e = .returned v' ∧ ys.map (·.1) = itmsOf gs ∧ (∀ y ∈ ys, ItOk y.1) ∧ ys.length ≤ 100 ∧ Its w w' v' ys) ∧ Below w.heap.size w w' := by
  obtain ⟨a, cap, rfl, hcell⟩ := hv
  obtain ⟨n, hnn⟩ : ∃ n, n = gs.length := ⟨_, rfl⟩
  have HCE := Lib.hid hcell
  have HOK := Lib.hid hok
  have HN := Lib.hid hnn
  have hn' : n ≤ 100 := by omega
  rw [← hnn]
  clear hcell hok hnn hn
  go_enter Tryz.func24, Tryz.ntmps24
  go_wp2_with fail
  go_loopw [3, 9] (fun v i wr => ∃ (k : Nat) (ys : List (Itm × Value)), k ≤ n ∧ i = .int .i64 k ∧ ys.length ≤ k ∧ Hid (ys.map (·.1) = itmsOf (gs.take k)) ∧ Hid (∀ y ∈ ys, ItOk y.1) ∧ Hid (Its w wr v ys)) (fun _ i _ => n - (intOf i).toNat)
  case atStart => exact ⟨0, [], by omega, rfl, by simp, rfl, fun y hy => (by cases hy), World.ownsRow_nil _ _ _ _, fun y hy => (by cases hy), Below.refl _ _⟩
  case round =>
    obtain ⟨k, ys, hk, rfl, hyl, HY, HO, HI⟩ := hrel
    by_cases hlt : k < n
    · obtain ⟨g, hg⟩ : ∃ g, gs[k]? = some g := ⟨_, List.getElem?_eq_getElem (by have := HN.out; omega)⟩
      have hgok := HOK.out g (List.mem_of_getElem? hg)
      obtain ⟨b, off, rfl, hbw, hcl⟩ := HCE.out (fun e => by rw [e] at hg; cases hg)
      obtain ⟨cv, hcc, q0, q1, q2, q3⟩ := hcl k g hg
      have HST0 : Hid (itmsOf (gs.take (k + 1)) = itmStep (itmsOf (gs.take k)) g) := itmsOf_take hg
      obtain ⟨gr, gl, gv, gc⟩ := g
      dsimp only at hcc q0 q1 q2 q3
      have HCC := Lib.hid hcc
      obtain ⟨ca, ccap, rfl, -⟩ := hcc
      have hcl' : ∀ i v, w.cell? ⟨b, i, none⟩ = some v → wr.cell? ⟨b, i, none⟩ = some v := fun i v h => (HI.out.below.cell (p := ⟨b, i, none⟩) hbw).trans h
      have q0 := hcl' _ _ q0
      have q1 := hcl' _ _ q1
      have q2 := hcl' _ _ q2
      have q3 := hcl' _ _ q3
      obtain ⟨ei, hi1, hi2, hi3, hi4⟩ := elemIt
      have hz := HI.out.below.size
      have HGK := Lib.hid hgok
      have HST : Hid ((ysStep ys (⟨gr, gl, gv, gc⟩, .slice ca gc.length ccap)).map (·.1) = itmsOf (gs.take (k + 1))) := by show _ = _; rw [ysStep_map, HY.out, HST0.out]
      have HOK2 : Hid (∀ y ∈ ysStep ys (⟨gr, gl, gv, gc⟩, .slice ca gc.length ccap), ItOk y.1) := ysStep_ok HO.out hgok
      clear hcl hcl' hg hgok HST0
      rcases nil_or_snoc ys with rfl | ⟨zs, y, rfl⟩
      · have HYS : Hid (ysStep [] ((⟨gr, gl, gv, gc⟩ : Gth), Value.slice ca gc.length ccap) = [] ++ [(itm1 ⟨gr, gl, gv, gc⟩, .slice ca gc.length ccap)]) := by show _ = _; rfl
        obtain ⟨a3, c3, hu3⟩ : ∃ a3 c3, u3 = .slice a3 0 c3 := by
          rcases HI.out.row.2 with ⟨rfl, -⟩ | ⟨g, cap, cur, rfl, -⟩
          · exact ⟨_, _, rfl⟩
          · exact ⟨_, _, rfl⟩
        subst hu3
        go_wp2_with fail
        refine wp_region_quiet_below (by kernel_rfl) (by kernel_rfl) ?_; (repeat (go_big_quiet_step (fail))); refine wpQuiet_nil ?_; rintro w3 ⟨⟨d3, os3⟩, rfl⟩
        have hb13 := below_regrown (wr.alloc (.cells #[.int .i64 gr, .int .i64 gl, .int .i64 gv, .slice ca gc.length ccap] 42)) d3 os3
        have HI2 := Lib.hid ((HI.out.same (by exact (by repeat (first | exact Below.refl _ _ | assumption | (refine Below.alloc ?_ ?_ _; rotate_left; · (first | omega | (simp; done) | (simp; omega) | fail)) | (refine Below.setCell ?_ ?_ _; rotate_left; · (first | omega | (simp; done) | (simp; omega) | fail)) | refine Below.drew ?_ | fail)))).same hb13)
        have hq : (grow (redrawn (wr.alloc (.cells #[.int .i64 gr, .int .i64 gl, .int .i64 gv, .slice ca gc.length ccap] 42)) d3) os3).heap[wr.heap.size]? = some (.cells #[.int .i64 gr, .int .i64 gl, .int .i64 gv, .slice ca gc.length ccap] 42) := blk_later hb13 (heap_alloc_at _ _ _ rfl)
        have hz3 := hb13.size
        clear hb13 HI q0 q1 q2 q3
        revert HI2 hq hz3
        generalize grow (redrawn (wr.alloc (.cells #[.int .i64 gr, .int .i64 gl, .int .i64 gv, .slice ca gc.length ccap] 42)) d3) os3 = w4
        intro HI2 hq hz3
        simp only [World.size_alloc] at hz3
        have d0 := blk_cell hq 0; have d1 := blk_cell hq 1; have d2 := blk_cell hq 2; have d3 := blk_cell hq 3
        go_wp2_with (at_builtin; refine wpList_append_own _ rfl _ _ 61 rfl w.heap.size 102 ei _ 7 72 undIts hi1 hi2 hi3 hi4 rfl (by decide) _ ([]).length (itCells []) rfl (HI2.out.row.alloc _) ⟨_, 0, none⟩ 1 1 (itC (itm1 ⟨gr, gl, gv, gc⟩, .slice ca gc.length ccap)) rfl rfl ?c1 ?c2 ?c3 ?c4 ?c5 ?c6)
        case c1 => first | (intro j u h; exact h) | exact cells_new _ _ _
        case c2 => exact itC_one _ ⟨_, _, _, rfl⟩
        case c3 => simp only [maxLen]; omega
        case c4 => omega
        case c5 => first | omega | (simp; omega)
        case c6 =>
          rintro v' w' hown hgrow -
          have HI3 := Lib.hid ((HI2.out.same (by exact (by repeat (first | exact Below.refl _ _ | assumption | (refine Below.alloc ?_ ?_ _; rotate_left; · (first | omega | (simp; done) | (simp; omega) | fail)) | (refine Below.setCell ?_ ?_ _; rotate_left; · (first | omega | (simp; done) | (simp; omega) | fail)) | refine Below.drew ?_ | fail)))).add (y := (itm1 ⟨gr, gl, gv, gc⟩, .slice ca gc.length ccap)) HCC.out hown hgrow)
          clear hown hgrow
          go_wp2_with fail
          go_roundw
          case rel => exact ⟨k + 1, [] ++ [(itm1 ⟨gr, gl, gv, gc⟩, .slice ca gc.length ccap)], by omega, by go_num, (by rw [List.length_append, List.length_singleton]; omega), HYS.out ▸ HST, HYS.out ▸ HOK2, HI3⟩
          case measure => simp [intOf]; omega
      · obtain ⟨⟨xk, xfr, xfl, xlr, xll, xlv, xch⟩, xcv⟩ := y
        have hxc := HI.out.chs (⟨xk, xfr, xfl, xlr, xll, xlv, xch⟩, xcv) (by simp)
        have hxo := HO.out (⟨xk, xfr, xfl, xlr, xll, xlv, xch⟩, xcv) (by simp)
        dsimp only at hxc
        obtain ⟨xa, xcap, rfl, -⟩ := hxc
        have hxb := sig_bounds hxo.last
        dsimp only at hxb
        obtain ⟨g, gcap, rfl, hgb, hgl, ⟨y0, y1, y2, y3, y4, y5, y6⟩, hfr, hset⟩ := HI.out.last
        dsimp only at y0 y1 y2 y3 y4 y5 y6 hset
        obtain ⟨m, hm⟩ : ∃ m, m = zs.length := ⟨_, rfl⟩
        have HMM := Lib.hid hm
        have hmk : m + 1 ≤ k := by simp only [List.length_append, List.length_singleton] at hyl; omega
        obtain ⟨B, hB⟩ : ∃ B : Bool, B = takesB ⟨xk, xfr, xfl, xlr, xll, xlv, xch⟩ ⟨gr, gl, gv, gc⟩ := ⟨_, rfl⟩
        have HYS : Hid (ysStep (zs ++ [((⟨xk, xfr, xfl, xlr, xll, xlv, xch⟩ : Itm), Value.slice xa xch.length xcap)]) ((⟨gr, gl, gv, gc⟩ : Gth), Value.slice ca gc.length ccap) =
            if B then zs ++ [((⟨1, xfr, xfl, gr, gl, xlv, xch⟩ : Itm), Value.slice xa xch.length xcap)] else (zs ++ [((⟨xk, xfr, xfl, xlr, xll, xlv, xch⟩ : Itm), Value.slice xa xch.length xcap)]) ++ [(itm1 ⟨gr, gl, gv, gc⟩, .slice ca gc.length ccap)]) := by
          show _ = _; rw [hB]; simp [ysStep]
        have hT : ∀ w, Calls Tryz.prog 51 #[.agg #[.int .i64 xk, .int .i64 xfr, .int .i64 xfl, .int .i64 xlr, .int .i64 xll, .int .i64 xlv, .slice xa xch.length xcap], .agg #[.int .i64 gr, .int .i64 gl, .int .i64 gv, .slice ca gc.length ccap]] w fun e w' => e = .returned (.bool B) ∧ Below w.heap.size w w' := fun w => by
          rw [hB]; exact takes_any xk xfr xfl xlr xll xlv gr gl gv xa ca xch.length gc.length xcap ccap w (by omega) (by omega)
        have HT := Lib.hid hT
        have HSET := Lib.hid hset
        rw [← hm] at y0 y1 y2 y3 y4 y5 y6
        rw [← hm]
        clear hT hset hB hm hxo
        have HFR := Lib.hid hfr
        clear hfr
        have hwrap : IntKind.i64.wrap ((m : Int) + 1 - 1) = m := by rw [Int.add_sub_cancel]; exact IntWalk.i64_in _ (by omega)
        obtain ⟨w1, hw1⟩ : ∃ w1, w1 = wr.alloc (.cells #[.int .i64 gr, .int .i64 gl, .int .i64 gv, .slice ca gc.length ccap] 42) := ⟨_, rfl⟩
        have hb1 : Below wr.heap.size wr w1 := by rw [hw1]; exact (by repeat (first | exact Below.refl _ _ | assumption | (refine Below.alloc ?_ ?_ _; rotate_left; · (first | omega | (simp; done) | (simp; omega) | fail)) | (refine Below.setCell ?_ ?_ _; rotate_left; · (first | omega | (simp; done) | (simp; omega) | fail)) | refine Below.drew ?_ | fail))
        have hd0 : w1.heap[wr.heap.size]? = some (.cells #[.int .i64 gr, .int .i64 gl, .int .i64 gv, .slice ca gc.length ccap] 42) := by rw [hw1]; exact (by repeat (first | exact heap_alloc_at _ _ _ (by (first | omega | (simp; done) | (simp; omega) | fail)) | (refine (heap_alloc_past _ _ _ ?_).trans ?_; · (first | omega | (simp; done) | (simp; omega) | fail)) | fail))
        have hy : ∀ i v, wr.cell? ⟨g, i, none⟩ = some v → w1.cell? ⟨g, i, none⟩ = some v := fun i v h => (hb1.cell (p := ⟨g, i, none⟩) hgl).trans h
        have HY2 := Lib.hid hy
        have HB1 := Lib.hid hb1
        have HD := Lib.hid hd0
        clear hb1 hd0 hy hwrap
        go_wp2_with fail
        rw [← hw1]
        clear hw1
        have hd0 := HD.out
        have d0 := blk_cell hd0 0; have d1 := blk_cell hd0 1; have d2 := blk_cell hd0 2; have d3 := blk_cell hd0 3
        have t0 := cell_regrown d0
        have t1 := cell_regrown d1
        have t2 := cell_regrown d2
        have t3 := cell_regrown d3
        have p0 := cell_regrown (HY2.out _ _ y0)
        have p1 := cell_regrown (HY2.out _ _ y1)
        have p2 := cell_regrown (HY2.out _ _ y2)
        have p3 := cell_regrown (HY2.out _ _ y3)
        have p4 := cell_regrown (HY2.out _ _ y4)
        have p5 := cell_regrown (HY2.out _ _ y5)
        have p6 := cell_regrown (HY2.out _ _ y6)
        have cT : ∀ d os, Calls Tryz.prog 51 #[.agg #[.int .i64 xk, .int .i64 xfr, .int .i64 xfl, .int .i64 xlr, .int .i64 xll, .int .i64 xlv, .slice xa xch.length xcap], .agg #[.int .i64 gr, .int .i64 gl, .int .i64 gv, .slice ca gc.length ccap]] (grow (redrawn w1 d) os) (fun e w'' => e = .returned (.bool B) ∧ ∃ p : Regrown, w'' = grow (redrawn w1 p.d) p.os) := fun d os => Calls.regrown_of (HT.out _)
        have a1 : IntKind.i64.wrap ((m : Int) + 1 - 1) = m := by rw [Int.add_sub_cancel]; exact IntWalk.i64_in _ (by omega)
        have a2 : IntKind.i64.wrap (m : Int) = m := IntWalk.i64_in _ (by omega)
        have a3 : (0 : Int) < (m : Int) + 1 := by omega
        have a4 : (m : Int) < (m : Int) + 1 := by omega
        have a5 : (0 : Int) ≤ (m : Int) := by omega
        clear hd0 q0 q1 q2 q3 d0 d1 d2 d3
        refine wp_region_quiet_below (by kernel_rfl) (by kernel_rfl) ?_; (repeat (go_big_quiet_step (exact cT _ _))); refine wpQuiet_nil ?_; rintro w3 ⟨⟨d3, os3⟩, rfl⟩
        have hb13 := below_regrown w1 d3 os3
        have HI4 := Lib.hid ((HI.out.same HB1.out).same hb13)
        have HD4 := Lib.hid (blk_later hb13 HD.out)
        clear cT HT hb13 t0 t1 t2 t3 p0 p1 p2 p3 p4 p5 p6 y0 y1 y2 y3 y4 y5 y6 a1 a2 a3 a4 HSET HFR HY2 HB1 HD HI
        revert HI4 HD4
        generalize grow (redrawn w1 d3) os3 = w4
        intro HI4 HD4
        obtain ⟨g2, gcap2, heq, hgb4, hgl4, ⟨y0, y1, y2, y3, y4, y5, y6⟩, hfr4, hset4⟩ := HI4.out.last
        cases heq
        dsimp only at y0 y1 y2 y3 y4 y5 y6 hset4
        have HSET := Lib.hid (hset4 gr gl)
        rw [← HMM.out] at HSET y0 y1 y2 y3 y4 y5 y6
        have f0 := hfr4 (m * 7)
        have f3 := hfr4 (m * 7 + 3)
        have f4 := hfr4 (m * 7 + 4)
        clear hset4 hfr4
        have hd0 := HD4.out
        have d0 := blk_cell hd0 0; have d1 := blk_cell hd0 1; have d2 := blk_cell hd0 2; have d3 := blk_cell hd0 3
        have hzd := blk_lt hd0
        clear hd0
        cases B with
        | true =>
          have HYS' : Hid (ysStep (zs ++ [((⟨xk, xfr, xfl, xlr, xll, xlv, xch⟩ : Itm), Value.slice xa xch.length xcap)]) ((⟨gr, gl, gv, gc⟩ : Gth), Value.slice ca gc.length ccap) = zs ++ [((⟨1, xfr, xfl, gr, gl, xlv, xch⟩ : Itm), Value.slice xa xch.length xcap)]) := HYS.out
          go_wp2_with fail
          go_roundw
          case rel => exact ⟨k + 1, zs ++ [((⟨1, xfr, xfl, gr, gl, xlv, xch⟩ : Itm), Value.slice xa xch.length xcap)], by omega, by go_num, (by rw [List.length_append, List.length_singleton, ← HMM.out]; omega), HYS'.out ▸ HST, HYS'.out ▸ HOK2, HSET⟩
          case measure => simp [intOf]; omega
        | false =>
          have HYS : Hid (ysStep (zs ++ [((⟨xk, xfr, xfl, xlr, xll, xlv, xch⟩ : Itm), Value.slice xa xch.length xcap)]) ((⟨gr, gl, gv, gc⟩ : Gth), Value.slice ca gc.length ccap) = (zs ++ [((⟨xk, xfr, xfl, xlr, xll, xlv, xch⟩ : Itm), Value.slice xa xch.length xcap)]) ++ [(itm1 ⟨gr, gl, gv, gc⟩, .slice ca gc.length ccap)]) := HYS.out
          have HI2 := HI4
          clear y0 y1 y2 y3 y4 y5 y6 f0 f3 f4 HSET
          obtain ⟨ys, hys⟩ : ∃ ys, ys = zs ++ [((⟨xk, xfr, xfl, xlr, xll, xlv, xch⟩ : Itm), Value.slice xa xch.length xcap)] := ⟨_, rfl⟩
          have hysl : ys.length = m + 1 := by rw [hys, HMM.out]; simp
          rw [← hys] at HYS HI2 HST HOK2
          have HYL := Lib.hid hysl
          have hyl1 : ys.length ≤ m + 1 := by omega
          rw [← HMM.out] at HI2
          clear hys hysl HI4
          go_wp2_with (at_builtin; refine wpList_append_own _ rfl _ _ 61 rfl w.heap.size 102 ei _ 7 72 undIts hi1 hi2 hi3 hi4 rfl (by decide) _ (ys).length (itCells ys) rfl (HI2.out.row.alloc _) ⟨_, 0, none⟩ 1 1 (itC (itm1 ⟨gr, gl, gv, gc⟩, .slice ca gc.length ccap)) rfl rfl ?c1 ?c2 ?c3 ?c4 ?c5 ?c6)
          case c1 => first | (intro j u h; exact h) | exact cells_new _ _ _
          case c2 => exact itC_one _ ⟨_, _, _, rfl⟩
          case c3 => simp only [maxLen]; omega
          case c4 => omega
          case c5 => first | omega | (simp; omega)
          case c6 =>
            rintro v' w' hown hgrow -
            have HI3 := Lib.hid ((HI2.out.same (by exact (by repeat (first | exact Below.refl _ _ | assumption | (refine Below.alloc ?_ ?_ _; rotate_left; · (first | omega | (simp; done) | (simp; omega) | fail)) | (refine Below.setCell ?_ ?_ _; rotate_left; · (first | omega | (simp; done) | (simp; omega) | fail)) | refine Below.drew ?_ | fail)))).add (y := (itm1 ⟨gr, gl, gv, gc⟩, .slice ca gc.length ccap)) HCC.out hown hgrow)
            clear hown hgrow
            go_wp2_with fail
            go_roundw
            case rel => exact ⟨k + 1, ys ++ [(itm1 ⟨gr, gl, gv, gc⟩, .slice ca gc.length ccap)], by omega, by go_num, (by rw [List.length_append, List.length_singleton]; omega), HYS.out ▸ HST, HYS.out ▸ HOK2, HI3⟩
            case measure => simp [intOf]; omega
    · obtain rfl : k = n := by omega
      have hF : Hid (ys.map (·.1) = itmsOf gs) := by show _ = _; rw [HY.out, HN.out, List.take_length]
      go_wp2_with fail
      go_ret
      exact ⟨⟨_, ys, rfl, hF.out, HO.out, by omega, HI.out⟩, HI.out.below⟩

end Go.Proofs.YtlfglbnbenaghaaGreatDoor

/- The reference's Text: it is what the program writes. -/
namespace Go.Proofs.YtlfglbnbenaghaaGreatDoor
set_option linter.unusedSimpArgs false
set_option linter.unusedVariables false
open Go Go.RowKit Go.Sort Go.BigFrame Go.Shelf
attribute [local go_sem] Oper.semAt_some putAll

/-- An item that stands for gatherings up to one. -/
structure EndsAt (y : Itm) (a g : Gth) : Prop where
  fr : y.fr = a.round
  fl : y.fl = a.letter
  lr : y.lr = g.round
  ll : y.ll = g.letter
  leaves : y.leaves = g.leaves
  chs : y.chs = g.chs
theorem taken_is {y : Itm} {a g h : Gth} (e : EndsAt y a g) (hg : GOk g) (hh : GOk h) : takesB y h = follB g h := by
  have h1 := hg.letter
  have h2 := hg.round
  have h3 := hh.letter
  have h4 := hh.round
  rw [Bool.eq_iff_iff]
  unfold takesB follB nextS rankF
  rw [e.lr, e.ll, e.leaves, e.chs]
  simp only [Bool.and_eq_true, decide_eq_true_eq, beq_iff_eq]
  constructor
  · rintro ⟨⟨⟨⟨c1, c2⟩, c3⟩, c4⟩, c5⟩
    rw [if_neg (by omega)]
    split at c5 <;> simp only [Prod.mk.injEq] at c5 <;> obtain ⟨c6, c7⟩ := c5
    · rw [if_neg (by omega)]
      exact ⟨⟨⟨⟨by omega, by omega⟩, c3⟩, by omega⟩, by omega⟩
    · rw [if_neg (by omega)]
      exact ⟨⟨⟨⟨by omega, by omega⟩, c3⟩, by omega⟩, by omega⟩
  · rintro ⟨⟨⟨⟨c1, c2⟩, c3⟩, c4⟩, c5⟩
    have c6 : g.letter < 23 := by
      split at c1 <;> omega
    rw [if_neg (show ¬ 23 ≤ g.letter by omega)] at c2
    refine ⟨⟨⟨⟨by omega, by omega⟩, c3⟩, c6⟩, ?_⟩
    by_cases c7 : 23 ≤ h.letter
    · rw [if_pos c7] at c2
      omega
    · rw [if_neg c7] at c2
      split
      · simp only [Prod.mk.injEq]; omega
      · simp only [Prod.mk.injEq]; omega
theorem ends_one (g : Gth) : EndsAt (itm1 g) g g := ⟨rfl, rfl, rfl, rfl, rfl, rfl⟩
theorem ends_more {y : Itm} {a g h : Gth} (e : EndsAt y a g) (ht : takesB y h = true) : EndsAt { y with kind := 1, lr := h.round, ll := h.letter } a h := by
  unfold takesB at ht
  simp only [Bool.and_eq_true, decide_eq_true_eq] at ht
  obtain ⟨⟨⟨⟨c1, c2⟩, c3⟩, c4⟩, c5⟩ := ht
  exact ⟨e.fr, e.fl, rfl, rfl, c3, by rw [List.length_eq_zero_iff.1 c1, List.length_eq_zero_iff.1 c2]⟩
theorem step_yes {xs : List Itm} {y : Itm} {g : Gth} (h : takesB y g = true) : itmStep (xs ++ [y]) g = xs ++ [{ y with kind := 1, lr := g.round, ll := g.letter }] := by
  unfold itmStep
  rw [List.getLast?_append]
  simp [h]
theorem step_no {xs : List Itm} {y : Itm} {g : Gth} (h : takesB y g = false) : itmStep (xs ++ [y]) g = (xs ++ [y]) ++ [itm1 g] := by
  unfold itmStep
  rw [List.getLast?_append]
  simp [h]
theorem itm_many {y : Itm} {a g : Gth} (e : EndsAt y a g) (hk : y.kind = 1) : itmT y = sigT a.round a.letter ++ [45] ++ gthT g := by
  unfold itmT gthT
  rw [if_pos hk, e.fr, e.fl, e.lr, e.ll, e.leaves, e.chs]
  simp
theorem itm_once {y : Itm} {a g : Gth} (e : EndsAt y a g) (hk : y.kind = 0) (ha : a = g) : itmT y = gthT g := by
  unfold itmT gthT
  rw [if_neg (by omega), e.fr, e.fl, e.leaves, e.chs, ha]
theorem gthT_len {g : Gth} (h : GOk g) : (gthT g).length ≤ 33 := by
  have h1 := sigT_len g.round g.letter
  have h2 := dec_len g.leaves
  have h3 := preT_len g.chs
  have h4 := h.few
  unfold gthT
  rw [chsT_pre]
  simp only [List.length_append]
  split <;> simp <;> omega
theorem itemsT_snoc (xs : List Itm) (y : Itm) : itemsT (xs ++ [y]) = itemsT xs ++ itmT y ++ [32] := by simp [itemsT]


set_option maxRecDepth 100000 in
set_option maxHeartbeats 6400000 in
theorem refText_any (b : Bk) (v : Value) (w : World) (hb : BookAt w.heap.size w v b) (he : errF b = 0) :
    Calls Tryz.prog 26 #[v] w fun e w' => e = .returned (S (writeF b)) ∧ Below w.heap.size w w' := by
  obtain ⟨sv, rfl, hgs⟩ := hb
  have hb : BookAt w.heap.size w (.agg #[.int .i64 b.signed, sv]) b := ⟨sv, rfl, hgs⟩
  obtain ⟨a, cap, rfl, -⟩ := hgs
  have HK := Lib.hid (BkBox.start hb)
  clear hb
  have hlen := (errF_zero he).len
  have hsg := (errF_zero he).signed
  have HE := Lib.hid (errF_zero he)
  clear he
  go_enter Tryz.func26, Tryz.ntmps26
  go_wp2_with fail
  revert HK
  generalize w.alloc (.cells #[.int .i64 b.signed, .slice a b.gs.length cap] 24) = w1
  intro HK
  go_loopg [3, 4] b.gs.length (fun g o q wr => ∃ (i : Nat) (O : Bs), i + g = b.gs.length ∧ o = S O ∧ q = .int .i64 i ∧ Hid (O = itemsT (itmsOf (b.gs.take i)) ∧ O.length ≤ i * 45 ∧ ∀ x, b.gs[i]? = some x → itmStep (itmsOf (b.gs.take i)) x = itmsOf (b.gs.take i) ++ [itm1 x]) ∧ Hid (BkBox w wr w.heap.size b a cap))
  case atStart => exact ⟨0, [], by omega, rfl, rfl, Lib.hid ⟨rfl, by simp, fun x _ => rfl⟩, HK⟩
  case round =>
    clear HK
    obtain ⟨i, O, hi, rfl, rfl, HO, HK⟩ := hrel
    have hOl : O.length ≤ 1350 := by have := HO.out.2.1; omega
    have zO : (⟨O.toArray⟩ : ByteArray).size ≤ 1350 := by rw [size_bytes]; exact hOl
    have c0 := blk_cell HK.out.box 0; have c1 := blk_cell HK.out.box 1
    cases gk with
    | succ g =>
      have hlt : i < b.gs.length := by omega
      have d0 : decide ((i : Int) < b.gs.length) = true := decide_eq_true (by omega)
      obtain ⟨gi, hgi⟩ : ∃ gi, b.gs[i]? = some gi := ⟨_, List.getElem?_eq_getElem hlt⟩
      have hy0 := HO.out.2.2 gi hgi
      rw [← itmsOf_take hgi] at hy0
      have HGI := Lib.hid hgi
      have HKI := Lib.hid (HE.out.gs gi (List.mem_of_getElem? hgi))
      have HY0 := Lib.hid hy0
      clear hgi hy0
      go_wp2_with fail
      go_loopg [5] (b.gs.length - i) (fun g2 q wy => ∃ (t : Nat), i ≤ t ∧ t + g2 = b.gs.length ∧ t < b.gs.length ∧ q = .int .i64 t ∧ Hid (∃ y gt, itmsOf (b.gs.take (t + 1)) = itmsOf (b.gs.take i) ++ [y] ∧ b.gs[t]? = some gt ∧ EndsAt y gi gt ∧ y.kind = if t = i then 0 else 1) ∧ Hid (BkBox w wy w.heap.size b a cap))
      case atStart => exact ⟨i, by omega, by omega, by omega, rfl, Lib.hid ⟨itm1 gi, gi, HY0.out, HGI.out, ends_one gi, by rw [if_pos rfl]; rfl⟩, HK⟩
      case round =>
        clear HK HY0 c0 c1
        obtain ⟨t, hit, htg, htl, rfl, HT, HK⟩ := hrel
        obtain ⟨y, gt, hy, hgt, hye, hyk⟩ := HT.out
        have HY := Lib.hid hy
        have HGT := Lib.hid hgt
        have HYE := Lib.hid hye
        have HYK := Lib.hid hyk
        have HKT := Lib.hid (HE.out.gs gt (List.mem_of_getElem? hgt))
        clear hy hgt hye hyk HT
        have c0 := blk_cell HK.out.box 0; have c1 := blk_cell HK.out.box 1
        have wt : IntKind.i64.wrap ((t : Int) + 1) = (t : Int) + 1 := IntWalk.i64_in _ (by omega)
        have r0 := cell_regrown c0
        have r1 := cell_regrown c1
        by_cases hmore : t + 1 < b.gs.length
        · have d1 : decide ((t : Int) + 1 < b.gs.length) = true := decide_eq_true (by omega)
          obtain ⟨gn, hgn⟩ : ∃ gn, b.gs[t + 1]? = some gn := ⟨_, List.getElem?_eq_getElem hmore⟩
          obtain ⟨bb, off, rfl, -, ca, ccap, hca, g0, g1, g2', g3⟩ := HK.out.gth HGT.out
          obtain ⟨bb', off', e', -, cb, dcap, hcb, h0, h1, h2, h3⟩ := HK.out.gth hgn
          cases e'
          have HGN := Lib.hid hgn
          have HKN := Lib.hid (HE.out.gs gn (List.mem_of_getElem? hgn))
          have s0 := cell_regrown g0
          have s1 := cell_regrown g1
          have s2 := cell_regrown g2'
          have s3 := cell_regrown g3
          have t0 := cell_regrown h0
          have t1 := cell_regrown h1
          have t2 := cell_regrown h2
          have t3 := cell_regrown h3
          clear g0 g1 g2' g3 h0 h1 h2 h3 c0 c1 hgn hca hcb
          have cF : ∀ d os, Calls Tryz.prog 54 #[.agg #[.int .i64 gt.round, .int .i64 gt.letter, .int .i64 gt.leaves, .slice ca gt.chs.length ccap], .agg #[.int .i64 gn.round, .int .i64 gn.letter, .int .i64 gn.leaves, .slice cb gn.chs.length dcap]] (grow (redrawn wr d) os) (fun e w'' => e = .returned (.bool (follB gt gn)) ∧ ∃ p : Regrown, w'' = grow (redrawn wr p.d) p.os) := fun d os => Calls.regrown_of (refFollows_any gt gn ca cb ccap dcap _ HKT.out HKN.out)
          have i1 : (0 : Int) ≤ (t : Int) + 1 := by omega
          have i2 : (t : Int) + 1 < b.gs.length := by omega
          have i3 : (t : Int) < b.gs.length := by omega
          have i4 : ((t : Int) + 1).toNat = t + 1 := by omega
          cases hF : follB gt gn with
          | true =>
            rw [hF] at cF
            go_wp2_with fail
            refine wp_region_quiet_below (by kernel_rfl) (by kernel_rfl) ?_; (repeat (go_big_quiet_step (with_reducible exact cF _ _))); refine wpQuiet_nil ?_; rintro w6 ⟨⟨d6, os6⟩, rfl⟩
            have HK := Lib.hid (HK.out.later (below_regrown wr d6 os6))
            have HTK : Hid (takesB y gn = true) := Lib.hid (by rw [taken_is HYE.out HKT.out HKN.out]; exact hF)
            have HNY : Hid (itmsOf (b.gs.take (t + 1 + 1)) = itmsOf (b.gs.take i) ++ [{ y with kind := 1, lr := gn.round, ll := gn.letter }]) := Lib.hid (by rw [itmsOf_take HGN.out, HY.out, step_yes HTK.out])
            clear r0 r1 s0 s1 s2 s3 t0 t1 t2 t3 cF hF
            go_wp2_with fail
            go_roundg (b.gs.length - (t + 1))
            case measure => omega
            case rel => exact ⟨t + 1, by omega, by omega, by omega, by go_num, Lib.hid ⟨_, gn, HNY.out, HGN.out, ends_more HYE.out HTK.out, by rw [if_neg (by omega)]⟩, HK⟩
          | false =>
            rw [hF] at cF
            go_wp2_with fail
            refine wp_region_quiet_below (by kernel_rfl) (by kernel_rfl) ?_; (repeat (go_big_quiet_step (with_reducible exact cF _ _))); refine wpQuiet_nil ?_; rintro w6 ⟨⟨d6, os6⟩, rfl⟩
            have HK := Lib.hid (HK.out.later (below_regrown wr d6 os6))
            have HNX : Hid (∀ x, b.gs[t + 1]? = some x → takesB y x = false) := Lib.hid (fun x hx => by
              rw [HGN.out] at hx
              cases hx
              rw [taken_is HYE.out HKT.out HKN.out]
              exact hF)
            clear r0 r1 s0 s1 s2 s3 t0 t1 t2 t3 cF hF
            revert HK
            dsimp only
            generalize grow (redrawn wr d6) os6 = w6
            intro HK
            have c0 := blk_cell HK.out.box 0; have c1 := blk_cell HK.out.box 1
            have hli : (i : Int) < b.gs.length := by omega
            have hlt' : (t : Int) < b.gs.length := by omega
            by_cases hti : t = i
            · have e8 : decide ((i : Int) < (t : Int)) = false := decide_eq_false (by omega)
              have e9 : decide (i < t) = false := decide_eq_false (by omega)
              have hgg : gi = gt := by
                have h1 := HGI.out
                have h2 := HGT.out
                rw [hti] at h2
                rw [h2] at h1
                exact (Option.some.inj h1).symm
              have HIT : Hid (itmT y = gthT gt) := Lib.hid (itm_once HYE.out (by have h := HYK.out; rwa [if_pos hti] at h) hgg)
              have HTI := Lib.hid hti
              clear hgg hti
              obtain ⟨G0, hG0⟩ : ∃ G0, G0 = gthT gt := ⟨_, rfl⟩
              have zG : (⟨G0.toArray⟩ : ByteArray).size ≤ 33 := by rw [size_bytes, hG0]; exact gthT_len HKT.out
              have HG0 := Lib.hid hG0
              clear hG0
              have z32 : (⟨[32].toArray⟩ : ByteArray).size ≤ 1 := by decide
              obtain ⟨Q, hQ⟩ : ∃ Z, Z = O ++ G0 := ⟨_, rfl⟩
              have cq : ((⟨(O).toArray⟩ : ByteArray) ++ ⟨(G0).toArray⟩) = ⟨(Q).toArray⟩ := by rw [hQ]; exact cat_bytes _ _
              have lq : (⟨(Q).toArray⟩ : ByteArray).size ≤ 1400 := by rw [← cq, ByteArray.size_append]; omega
              have HQ := Lib.hid hQ
              clear hQ
              obtain ⟨Q2, hQ2⟩ : ∃ Z, Z = Q ++ [32] := ⟨_, rfl⟩
              have cq2 : ((⟨(Q).toArray⟩ : ByteArray) ++ ⟨([32]).toArray⟩) = ⟨(Q2).toArray⟩ := by rw [hQ2]; exact cat_bytes _ _
              have lq2 : (⟨(Q2).toArray⟩ : ByteArray).size ≤ 1401 := by rw [← cq2, ByteArray.size_append]; omega
              have HQ2 := Lib.hid hQ2
              clear hQ2
              obtain ⟨bt, offt, et, -, ct, cct, hct, j0, j1, j2, j3⟩ := HK.out.gth HGT.out
              cases et
              have HCT := Lib.hid hct
              clear hct
              go_wp2_with fail
              refine (refItem_any gt ct cct _ HCT.out HKT.out).mono ?_
              rintro e w8 ⟨rfl, hb8⟩
              rw [← HG0.out]
              have HK := Lib.hid (HK.out.later hb8)
              clear hb8 j0 j1 j2 j3 HCT
              go_wp2_with fail
              go_roundg (b.gs.length - (t + 1))
              case measure => omega
              case rel => exact ⟨t + 1, Q2, by omega, (by first | rfl | trivial), by go_num, Lib.hid ⟨by rw [HY.out, itemsT_snoc, HIT.out]; rw [HQ2.out, HQ.out, HO.out.1]; simp [HO.out.1, HG0.out], by
                have h1 := HO.out.2.1
                have h2 : Q2.length ≤ O.length + 45 := by rw [← size_bytes, ← size_bytes O, ← cq2, ← cq]; simp only [ByteArray.size_append]; omega
                have h3 : (i + 1) * 45 ≤ (t + 1) * 45 := Nat.mul_le_mul_right _ (by omega)
                omega, fun x hx => by rw [HY.out]; exact step_no (HNX.out x hx)⟩, HK⟩
            · have e8 : decide ((i : Int) < (t : Int)) = true := decide_eq_true (by omega)
              have e9 : decide (i < t) = true := decide_eq_true (by omega)
              have HIT : Hid (itmT y = sigT gi.round gi.letter ++ [45] ++ gthT gt) := Lib.hid (itm_many HYE.out (by have h := HYK.out; rwa [if_neg hti] at h))
              have z45 : (⟨[45].toArray⟩ : ByteArray).size ≤ 1 := by decide
              have zsg : (⟨(sigT gi.round gi.letter).toArray⟩ : ByteArray).size ≤ 5 := by rw [size_bytes]; exact sigT_len _ _
              obtain ⟨P1, hP1⟩ : ∃ Z, Z = O ++ sigT gi.round gi.letter := ⟨_, rfl⟩
              have c1x : ((⟨(O).toArray⟩ : ByteArray) ++ ⟨(sigT gi.round gi.letter).toArray⟩) = ⟨(P1).toArray⟩ := by rw [hP1]; exact cat_bytes _ _
              have l1x : (⟨(P1).toArray⟩ : ByteArray).size ≤ 1360 := by rw [← c1x, ByteArray.size_append]; omega
              have HP1 := Lib.hid hP1
              clear hP1
              obtain ⟨P2, hP2⟩ : ∃ Z, Z = P1 ++ [45] := ⟨_, rfl⟩
              have c2x : ((⟨(P1).toArray⟩ : ByteArray) ++ ⟨([45]).toArray⟩) = ⟨(P2).toArray⟩ := by rw [hP2]; exact cat_bytes _ _
              have l2x : (⟨(P2).toArray⟩ : ByteArray).size ≤ 1361 := by rw [← c2x, ByteArray.size_append]; omega
              have HP2 := Lib.hid hP2
              clear hP2
              obtain ⟨bi, offi, ei, -, cix, ccix, -, k0, k1, k2, k3⟩ := HK.out.gth HGI.out
              cases ei
              go_wp2_with fail
              refine (refWritten_any _ _ HKI.out.sig _).mono ?_
              rintro e w7 ⟨rfl, hb7⟩
              have HK := Lib.hid (HK.out.later hb7)
              clear hb7 k0 k1 k2 k3 c0 c1
              have c0 := blk_cell HK.out.box 0; have c1 := blk_cell HK.out.box 1
              obtain ⟨G0, hG0⟩ : ∃ G0, G0 = gthT gt := ⟨_, rfl⟩
              have zG : (⟨G0.toArray⟩ : ByteArray).size ≤ 33 := by rw [size_bytes, hG0]; exact gthT_len HKT.out
              have HG0 := Lib.hid hG0
              clear hG0
              have z32 : (⟨[32].toArray⟩ : ByteArray).size ≤ 1 := by decide
              obtain ⟨Q, hQ⟩ : ∃ Z, Z = P2 ++ G0 := ⟨_, rfl⟩
              have cq : ((⟨(P2).toArray⟩ : ByteArray) ++ ⟨(G0).toArray⟩) = ⟨(Q).toArray⟩ := by rw [hQ]; exact cat_bytes _ _
              have lq : (⟨(Q).toArray⟩ : ByteArray).size ≤ 1400 := by rw [← cq, ByteArray.size_append]; omega
              have HQ := Lib.hid hQ
              clear hQ
              obtain ⟨Q2, hQ2⟩ : ∃ Z, Z = Q ++ [32] := ⟨_, rfl⟩
              have cq2 : ((⟨(Q).toArray⟩ : ByteArray) ++ ⟨([32]).toArray⟩) = ⟨(Q2).toArray⟩ := by rw [hQ2]; exact cat_bytes _ _
              have lq2 : (⟨(Q2).toArray⟩ : ByteArray).size ≤ 1401 := by rw [← cq2, ByteArray.size_append]; omega
              have HQ2 := Lib.hid hQ2
              clear hQ2
              obtain ⟨bt, offt, et, -, ct, cct, hct, j0, j1, j2, j3⟩ := HK.out.gth HGT.out
              cases et
              have HCT := Lib.hid hct
              clear hct
              go_wp2_with fail
              refine (refItem_any gt ct cct _ HCT.out HKT.out).mono ?_
              rintro e w8 ⟨rfl, hb8⟩
              rw [← HG0.out]
              have HK := Lib.hid (HK.out.later hb8)
              clear hb8 j0 j1 j2 j3 HCT
              go_wp2_with fail
              go_roundg (b.gs.length - (t + 1))
              case measure => omega
              case rel => exact ⟨t + 1, Q2, by omega, (by first | rfl | trivial), by go_num, Lib.hid ⟨by rw [HY.out, itemsT_snoc, HIT.out]; rw [HQ2.out, HQ.out, HP2.out, HP1.out]; simp [HO.out.1, HG0.out], by
                have h1 := HO.out.2.1
                have h2 : Q2.length ≤ O.length + 45 := by rw [← size_bytes, ← size_bytes O, ← cq2, ← cq, ← c2x, ← c1x]; simp only [ByteArray.size_append]; omega
                have h3 : (i + 1) * 45 ≤ (t + 1) * 45 := Nat.mul_le_mul_right _ (by omega)
                omega, fun x hx => by rw [HY.out]; exact step_no (HNX.out x hx)⟩, HK⟩
        · have d1 : decide ((t : Int) + 1 < b.gs.length) = false := decide_eq_false (by omega)
          have HNX : Hid (∀ x, b.gs[t + 1]? = some x → takesB y x = false) := Lib.hid (fun x hx => absurd (List.getElem?_eq_some_iff.1 hx).1 hmore)
          go_wp2_with fail
          refine wp_region_quiet_below (by kernel_rfl) (by kernel_rfl) ?_; (repeat (go_big_quiet_step (fail))); refine wpQuiet_nil ?_; rintro w6 ⟨⟨d6, os6⟩, rfl⟩
          have HK := Lib.hid (HK.out.later (below_regrown wr d6 os6))
          clear r0 r1 c0 c1
          revert HK
          dsimp only
          generalize grow (redrawn wr d6) os6 = w6
          intro HK
          have c0 := blk_cell HK.out.box 0; have c1 := blk_cell HK.out.box 1
          have hli : (i : Int) < b.gs.length := by omega
          have hlt' : (t : Int) < b.gs.length := by omega
          by_cases hti : t = i
          · have e8 : decide ((i : Int) < (t : Int)) = false := decide_eq_false (by omega)
            have e9 : decide (i < t) = false := decide_eq_false (by omega)
            have hgg : gi = gt := by
              have h1 := HGI.out
              have h2 := HGT.out
              rw [hti] at h2
              rw [h2] at h1
              exact (Option.some.inj h1).symm
            have HIT : Hid (itmT y = gthT gt) := Lib.hid (itm_once HYE.out (by have h := HYK.out; rwa [if_pos hti] at h) hgg)
            have HTI := Lib.hid hti
            clear hgg hti
            obtain ⟨G0, hG0⟩ : ∃ G0, G0 = gthT gt := ⟨_, rfl⟩
            have zG : (⟨G0.toArray⟩ : ByteArray).size ≤ 33 := by rw [size_bytes, hG0]; exact gthT_len HKT.out
            have HG0 := Lib.hid hG0
            clear hG0
            have z32 : (⟨[32].toArray⟩ : ByteArray).size ≤ 1 := by decide
            obtain ⟨Q, hQ⟩ : ∃ Z, Z = O ++ G0 := ⟨_, rfl⟩
            have cq : ((⟨(O).toArray⟩ : ByteArray) ++ ⟨(G0).toArray⟩) = ⟨(Q).toArray⟩ := by rw [hQ]; exact cat_bytes _ _
            have lq : (⟨(Q).toArray⟩ : ByteArray).size ≤ 1400 := by rw [← cq, ByteArray.size_append]; omega
            have HQ := Lib.hid hQ
            clear hQ
            obtain ⟨Q2, hQ2⟩ : ∃ Z, Z = Q ++ [32] := ⟨_, rfl⟩
            have cq2 : ((⟨(Q).toArray⟩ : ByteArray) ++ ⟨([32]).toArray⟩) = ⟨(Q2).toArray⟩ := by rw [hQ2]; exact cat_bytes _ _
            have lq2 : (⟨(Q2).toArray⟩ : ByteArray).size ≤ 1401 := by rw [← cq2, ByteArray.size_append]; omega
            have HQ2 := Lib.hid hQ2
            clear hQ2
            obtain ⟨bt, offt, et, -, ct, cct, hct, j0, j1, j2, j3⟩ := HK.out.gth HGT.out
            cases et
            have HCT := Lib.hid hct
            clear hct
            go_wp2_with fail
            refine (refItem_any gt ct cct _ HCT.out HKT.out).mono ?_
            rintro e w8 ⟨rfl, hb8⟩
            rw [← HG0.out]
            have HK := Lib.hid (HK.out.later hb8)
            clear hb8 j0 j1 j2 j3 HCT
            go_wp2_with fail
            go_roundg (b.gs.length - (t + 1))
            case measure => omega
            case rel => exact ⟨t + 1, Q2, by omega, (by first | rfl | trivial), by go_num, Lib.hid ⟨by rw [HY.out, itemsT_snoc, HIT.out]; rw [HQ2.out, HQ.out, HO.out.1]; simp [HO.out.1, HG0.out], by
              have h1 := HO.out.2.1
              have h2 : Q2.length ≤ O.length + 45 := by rw [← size_bytes, ← size_bytes O, ← cq2, ← cq]; simp only [ByteArray.size_append]; omega
              have h3 : (i + 1) * 45 ≤ (t + 1) * 45 := Nat.mul_le_mul_right _ (by omega)
              omega, fun x hx => by rw [HY.out]; exact step_no (HNX.out x hx)⟩, HK⟩
          · have e8 : decide ((i : Int) < (t : Int)) = true := decide_eq_true (by omega)
            have e9 : decide (i < t) = true := decide_eq_true (by omega)
            have HIT : Hid (itmT y = sigT gi.round gi.letter ++ [45] ++ gthT gt) := Lib.hid (itm_many HYE.out (by have h := HYK.out; rwa [if_neg hti] at h))
            have z45 : (⟨[45].toArray⟩ : ByteArray).size ≤ 1 := by decide
            have zsg : (⟨(sigT gi.round gi.letter).toArray⟩ : ByteArray).size ≤ 5 := by rw [size_bytes]; exact sigT_len _ _
            obtain ⟨P1, hP1⟩ : ∃ Z, Z = O ++ sigT gi.round gi.letter := ⟨_, rfl⟩
            have c1x : ((⟨(O).toArray⟩ : ByteArray) ++ ⟨(sigT gi.round gi.letter).toArray⟩) = ⟨(P1).toArray⟩ := by rw [hP1]; exact cat_bytes _ _
            have l1x : (⟨(P1).toArray⟩ : ByteArray).size ≤ 1360 := by rw [← c1x, ByteArray.size_append]; omega
            have HP1 := Lib.hid hP1
            clear hP1
            obtain ⟨P2, hP2⟩ : ∃ Z, Z = P1 ++ [45] := ⟨_, rfl⟩
            have c2x : ((⟨(P1).toArray⟩ : ByteArray) ++ ⟨([45]).toArray⟩) = ⟨(P2).toArray⟩ := by rw [hP2]; exact cat_bytes _ _
            have l2x : (⟨(P2).toArray⟩ : ByteArray).size ≤ 1361 := by rw [← c2x, ByteArray.size_append]; omega
            have HP2 := Lib.hid hP2
            clear hP2
            obtain ⟨bi, offi, ei, -, cix, ccix, -, k0, k1, k2, k3⟩ := HK.out.gth HGI.out
            cases ei
            go_wp2_with fail
            refine (refWritten_any _ _ HKI.out.sig _).mono ?_
            rintro e w7 ⟨rfl, hb7⟩
            have HK := Lib.hid (HK.out.later hb7)
            clear hb7 k0 k1 k2 k3 c0 c1
            have c0 := blk_cell HK.out.box 0; have c1 := blk_cell HK.out.box 1
            obtain ⟨G0, hG0⟩ : ∃ G0, G0 = gthT gt := ⟨_, rfl⟩
            have zG : (⟨G0.toArray⟩ : ByteArray).size ≤ 33 := by rw [size_bytes, hG0]; exact gthT_len HKT.out
            have HG0 := Lib.hid hG0
            clear hG0
            have z32 : (⟨[32].toArray⟩ : ByteArray).size ≤ 1 := by decide
            obtain ⟨Q, hQ⟩ : ∃ Z, Z = P2 ++ G0 := ⟨_, rfl⟩
            have cq : ((⟨(P2).toArray⟩ : ByteArray) ++ ⟨(G0).toArray⟩) = ⟨(Q).toArray⟩ := by rw [hQ]; exact cat_bytes _ _
            have lq : (⟨(Q).toArray⟩ : ByteArray).size ≤ 1400 := by rw [← cq, ByteArray.size_append]; omega
            have HQ := Lib.hid hQ
            clear hQ
            obtain ⟨Q2, hQ2⟩ : ∃ Z, Z = Q ++ [32] := ⟨_, rfl⟩
            have cq2 : ((⟨(Q).toArray⟩ : ByteArray) ++ ⟨([32]).toArray⟩) = ⟨(Q2).toArray⟩ := by rw [hQ2]; exact cat_bytes _ _
            have lq2 : (⟨(Q2).toArray⟩ : ByteArray).size ≤ 1401 := by rw [← cq2, ByteArray.size_append]; omega
            have HQ2 := Lib.hid hQ2
            clear hQ2
            obtain ⟨bt, offt, et, -, ct, cct, hct, j0, j1, j2, j3⟩ := HK.out.gth HGT.out
            cases et
            have HCT := Lib.hid hct
            clear hct
            go_wp2_with fail
            refine (refItem_any gt ct cct _ HCT.out HKT.out).mono ?_
            rintro e w8 ⟨rfl, hb8⟩
            rw [← HG0.out]
            have HK := Lib.hid (HK.out.later hb8)
            clear hb8 j0 j1 j2 j3 HCT
            go_wp2_with fail
            go_roundg (b.gs.length - (t + 1))
            case measure => omega
            case rel => exact ⟨t + 1, Q2, by omega, (by first | rfl | trivial), by go_num, Lib.hid ⟨by rw [HY.out, itemsT_snoc, HIT.out]; rw [HQ2.out, HQ.out, HP2.out, HP1.out]; simp [HO.out.1, HG0.out], by
              have h1 := HO.out.2.1
              have h2 : Q2.length ≤ O.length + 45 := by rw [← size_bytes, ← size_bytes O, ← cq2, ← cq, ← c2x, ← c1x]; simp only [ByteArray.size_append]; omega
              have h3 : (i + 1) * 45 ≤ (t + 1) * 45 := Nat.mul_le_mul_right _ (by omega)
              omega, fun x hx => by rw [HY.out]; exact step_no (HNX.out x hx)⟩, HK⟩
    | zero =>
      have hiN : i = b.gs.length := by omega
      have d0 : decide ((i : Int) < b.gs.length) = false := decide_eq_false (by omega)
      have HV : Hid (writeF b = O ++ [36] ++ dec b.signed) := Lib.hid (by
        have h := HO.out.1
        rw [hiN, List.take_length] at h
        unfold writeF
        rw [formulaT_is, ← h]
        simp)
      have z36 : (⟨[36].toArray⟩ : ByteArray).size ≤ 1 := by decide
      have zsd : (⟨(dec b.signed).toArray⟩ : ByteArray).size ≤ 2 := by rw [size_bytes]; exact dec_len _
      obtain ⟨P1, hP1⟩ : ∃ Z, Z = O ++ [36] := ⟨_, rfl⟩
      have c1x : ((⟨(O).toArray⟩ : ByteArray) ++ ⟨([36]).toArray⟩) = ⟨(P1).toArray⟩ := by rw [hP1]; exact cat_bytes _ _
      have l1x : (⟨(P1).toArray⟩ : ByteArray).size ≤ 1360 := by rw [← c1x, ByteArray.size_append]; omega
      have HP1 := Lib.hid hP1
      clear hP1
      obtain ⟨P2, hP2⟩ : ∃ Z, Z = P1 ++ dec b.signed := ⟨_, rfl⟩
      have c2x : ((⟨(P1).toArray⟩ : ByteArray) ++ ⟨(dec b.signed).toArray⟩) = ⟨(P2).toArray⟩ := by rw [hP2]; exact cat_bytes _ _
      have l2x : (⟨(P2).toArray⟩ : ByteArray).size ≤ 1362 := by rw [← c2x, ByteArray.size_append]; omega
      have HP2 := Lib.hid hP2
      clear hP2
      clear hiN
      go_wp2_with fail
      refine (refDig_any b.signed hsg.1 (by omega) _).mono ?_
      rintro e w7 ⟨rfl, hb7⟩
      have HK := Lib.hid (HK.out.later hb7)
      clear hb7 c0 c1
      go_wp2_with fail
      go_ret
      exact ⟨by rw [HV.out, ← HP1.out, ← HP2.out]; rfl, HK.out.below⟩
end Go.Proofs.YtlfglbnbenaghaaGreatDoor

/- Plain facts: what is written is read back; no formula that is read as a book is shorter than the one that is written of it. -/
namespace Go.Proofs.YtlfglbnbenaghaaGreatDoor
set_option linter.unusedSimpArgs false
set_option linter.unusedVariables false

theorem sigT_few {r l : Int} (h : sigB r l = true) : (sigT r l).length ≤ 4 := by
  have hb : 1 ≤ r ∧ r ≤ 3 ∧ 0 ≤ l ∧ l ≤ 24 := by simp [sigB, inB] at h; omega
  have hl := letterT_len l
  unfold sigT
  rw [List.length_append]
  have hd : (dec r).length = 1 := by
    unfold dec decN
    rw [if_pos (by omega)]
    rfl
  split <;> simp <;> omega
theorem dec_pos1 (n : Int) : 1 ≤ (dec n).length := by
  unfold dec decN
  split <;> simp
theorem GOk.chW {g : Gth} (h : GOk g) : ∀ c ∈ g.chs, ChW c := fun c hc => by
  obtain ⟨h1, h2, h3, h4, h5⟩ := h.ch hc
  have := h.leaves
  refine ⟨h1, ⟨h2, by omega⟩, ⟨h4, by omega⟩, fun hk => ?_⟩
  obtain ⟨-, hr⟩ := chsErr_zero h.chs c hc
  unfold rangeB at hr
  rw [if_neg hk] at hr
  simp only [Bool.and_eq_true, decide_eq_true_eq] at hr
  exact hr.2
theorem itm1_w {g : Gth} (h : GOk g) : ItW (itm1 g) := ⟨h.sig, h.sig, by have := h.leaves; exact ⟨by show 0 ≤ g.leaves; omega, by show g.leaves ≤ 12; omega⟩, h.few, h.chW, Or.inl ⟨rfl, rfl, rfl⟩⟩
theorem itmW_len {x : Itm} (h : ItW x) : (itmT x).length ≤ 32 := by
  have h1 := sigT_few h.first
  have h2 := sigT_few h.last
  have h3 := dec_len x.leaves
  have h4 := chsT_len h.few
  unfold itmT
  rcases h.kind with ⟨hk, -, -⟩ | ⟨hk, -, -, -, hc⟩
  · rw [if_neg (by omega)]
    simp only [List.length_append]
    omega
  · rw [if_pos hk, hc]
    simp [chsT]
    omega
theorem itemsW_len : ∀ (xs : List Itm), (∀ x ∈ xs, ItW x) → (itemsT xs).length ≤ xs.length * 33
  | [], _ => by simp [itemsT]
  | x :: xs, h => by
    have h1 := itmW_len (h x (by simp))
    have h2 := itemsW_len xs (fun y hy => h y (List.mem_cons_of_mem _ hy))
    rw [itemsT_cons]
    simp only [List.length_append, List.length_cons]
    omega
theorem itmsOf_few : ∀ (gs : List Gth) (ys : List Itm), (gs.foldl itmStep ys).length ≤ ys.length + gs.length
  | [], ys => by simp
  | g :: gs, ys => by
    have h := itmsOf_few gs (itmStep ys g)
    have h1 : (itmStep ys g).length ≤ ys.length + 1 := by
      rcases nil_or_snoc ys with rfl | ⟨zs, y, rfl⟩
      · simp [itmStep]
      · cases ht : takesB y g with
        | true => rw [step_yes ht]; simp
        | false => rw [step_no ht]; simp
    rw [List.foldl_cons, List.length_cons]
    omega

theorem rank_next' {s : Int × Int} (h : s.2 < 23) : rankS (nextS s.1 s.2).1 (nextS s.1 s.2).2 = rankS s.1 s.2 + 1 := rank_next h
theorem runS_snoc : ∀ (n : Nat) (s l : Int × Int), 0 ≤ s.2 ∧ s.2 < 23 → 0 ≤ l.2 ∧ l.2 < 23 → rankS l.1 l.2 = rankS s.1 s.2 + n → runS (n + 1) s (nextS l.1 l.2) = runS n s l ++ [nextS l.1 l.2]
  | 0, s, l, hs, hl, hr => by
    obtain ⟨h1, h2⟩ := rank_inj (r := l.1) (r' := s.1) hl hs (by simpa using hr)
    have e : l = s := Prod.ext h1 h2
    subst e
    have hn := rank_next' hl.2
    have hne : l ≠ nextS l.1 l.2 := fun e => by
      rw [← e] at hn
      omega
    show (if l = nextS l.1 l.2 then [l] else [l, nextS l.1 l.2]) = _
    rw [if_neg hne]
    rfl
  | n + 1, s, l, hs, hl, hr => by
    have hn := rank_next' hl.2
    have hns := rank_next' hs.2
    have hne : s ≠ nextS l.1 l.2 := fun e => by
      rw [← e] at hn
      omega
    have hne2 : s ≠ l := fun e => by
      rw [← e] at hr
      omega
    have ho := nextS_ok (r := s.1) hs
    rw [runS, if_neg hne, runS_snoc n (nextS s.1 s.2) l ⟨ho.1, ho.2.1⟩ hl (by omega)]
    conv => rhs; rw [runS, if_neg hne2]
    rfl
theorem runS_head (n : Nat) (s l : Int × Int) : runS n s l = s :: (runS n s l).tail := by
  cases n with
  | zero => rfl
  | succ n =>
    unfold runS
    split <;> rfl
theorem takes_iff {y : Itm} {g : Gth} : takesB y g = true ↔ y.chs = [] ∧ g.chs = [] ∧ y.leaves = g.leaves ∧ y.ll < 23 ∧ nextS y.lr y.ll = (g.round, g.letter) := by
  unfold takesB
  simp only [Bool.and_eq_true, decide_eq_true_eq, List.length_eq_zero_iff]
  constructor
  · rintro ⟨⟨⟨⟨a, b⟩, c⟩, d⟩, e⟩
    exact ⟨a, b, c, d, e⟩
  · rintro ⟨a, b, c, d, e⟩
    exact ⟨⟨⟨⟨a, b⟩, c⟩, d⟩, e⟩
theorem sigB_iff {r l : Int} : sigB r l = true ↔ 1 ≤ r ∧ r ≤ 3 ∧ 0 ≤ l ∧ l ≤ 24 := by simp [sigB, inB]; omega
/-- An item that goes on. -/
theorem itmGs_more {y : Itm} {g : Gth} (hy : ItW y) (hg : GOk g) (ht : takesB y g = true) : ItW { y with kind := 1, lr := g.round, ll := g.letter } ∧ itmGs { y with kind := 1, lr := g.round, ll := g.letter } = itmGs y ++ [g] := by
  obtain ⟨h1, h2, h3, h4, h5⟩ := takes_iff.1 ht
  have hf := sigB_iff.1 hy.first
  have hl := sigB_iff.1 hy.last
  obtain ⟨gr, gl, gv, gc⟩ := g
  obtain ⟨yk, yfr, yfl, ylr, yll, yv, yc⟩ := y
  dsimp only at h1 h2 h3 h4 h5 hf hl
  subst h1 h2 h3
  have ho := nextS_ok (r := ylr) (l := yll) ⟨hl.2.2.1, h4⟩
  have hn := rank_next (r := ylr) h4
  rw [h5] at ho hn
  dsimp only at ho hn
  have hk : yfl < 23 ∧ rankS yfr yfl ≤ rankS ylr yll := by
    rcases hy.kind with ⟨-, e1, e2⟩ | ⟨-, e1, e2, e3, -⟩
    · dsimp only at e1 e2
      subst e1 e2
      exact ⟨h4, Int.le_refl _⟩
    · dsimp only at e1 e2 e3
      have := rank_behind ⟨hl.2.2.1, e2⟩ ⟨hf.2.2.1, e1⟩ e3
      exact ⟨e1, by omega⟩
  refine ⟨⟨hy.first, hg.sig, hy.leaves, by simp, fun c hc => (by cases hc), Or.inr ⟨rfl, hk.1, ho.2.1, ?_, rfl⟩⟩, ?_⟩
  · show behindB gr gl yfr yfl = true
    unfold behindB
    have hr : rankS yfr yfl < rankS gr gl := by omega
    unfold rankS at hr
    split
    · subst_vars
      exact decide_eq_true (by omega)
    · exact decide_eq_true (by omega)
  · have hs := runS_snoc (rankS ylr yll - rankS yfr yfl).toNat (yfr, yfl) (ylr, yll) ⟨hf.2.2.1, hk.1⟩ ⟨hl.2.2.1, h4⟩ (by dsimp only; omega)
    dsimp only at hs
    rw [h5] at hs
    have hz : (rankS gr gl - rankS yfr yfl).toNat = (rankS ylr yll - rankS yfr yfl).toNat + 1 := by omega
    show (if (1 : Int) = 0 then _ else (runS (rankS gr gl - rankS yfr yfl).toNat (yfr, yfl) (gr, gl)).map fun s => (⟨s.1, s.2, yv, []⟩ : Gth)) = _
    rw [if_neg (by omega), hz, hs, List.map_append]
    congr 1
    unfold itmGs
    dsimp only
    rcases hy.kind with ⟨e0, e1, e2⟩ | ⟨e0, -⟩
    · dsimp only at e0 e1 e2
      subst e0 e1 e2
      rw [if_pos rfl, runS_stop]
      rfl
    · dsimp only at e0
      subst e0
      rw [if_neg (by omega)]
theorem gsOf_snoc (xs : List Itm) (y : Itm) : gsOf (xs ++ [y]) = gsOf xs ++ itmGs y := by simp [gsOf]
/-- The items of gatherings are read as these. -/
theorem itmsOf_back : ∀ (gs : List Gth) (ys : List Itm), (∀ g ∈ gs, GOk g) → (∀ y ∈ ys, ItW y) → gsOf (gs.foldl itmStep ys) = gsOf ys ++ gs ∧ ∀ y ∈ gs.foldl itmStep ys, ItW y
  | [], ys, _, hy => ⟨by simp, hy⟩
  | g :: gs, ys, hg, hy => by
    have hg0 := hg g (by simp)
    have hs : gsOf (itmStep ys g) = gsOf ys ++ [g] ∧ ∀ y ∈ itmStep ys g, ItW y := by
      have hnew : gsOf (ys ++ [itm1 g]) = gsOf ys ++ [g] := by rw [gsOf_snoc]; rfl
      have hnw : ∀ y ∈ ys ++ [itm1 g], ItW y := fun y h => by
        rcases List.mem_append.1 h with h | h
        · exact hy y h
        · rw [List.mem_singleton.1 h]
          exact itm1_w hg0
      rcases nil_or_snoc ys with rfl | ⟨zs, y, rfl⟩
      · exact ⟨hnew, hnw⟩
      · cases ht : takesB y g with
        | false =>
          rw [step_no ht]
          exact ⟨hnew, hnw⟩
        | true =>
          rw [step_yes ht]
          obtain ⟨h1, h2⟩ := itmGs_more (hy y (by simp)) hg0 ht
          refine ⟨by rw [gsOf_snoc, gsOf_snoc, h2, List.append_assoc], fun x hx => ?_⟩
          rcases List.mem_append.1 hx with hx | hx
          · exact hy x (List.mem_append_left _ hx)
          · rw [List.mem_singleton.1 hx]
            exact h1
    obtain ⟨h1, h2⟩ := itmsOf_back gs (itmStep ys g) (fun x hx => hg x (List.mem_cons_of_mem _ hx)) hs.2
    exact ⟨by rw [List.foldl_cons, h1, hs.1]; simp, h2⟩
theorem write_len {b : Bk} (he : errF b = 0) : (writeF b).length ≤ 1000 := by
  have hb := errF_zero he
  obtain ⟨-, h2⟩ := itmsOf_back b.gs [] hb.gs (fun y hy => by cases hy)
  have h3 := itemsW_len _ h2
  have h4 := itmsOf_few b.gs []
  have h5 := hb.len
  have h6 := dec_len b.signed
  show (formulaT b.signed (itmsOf b.gs)).length ≤ 1000
  rw [formulaT_is]
  unfold itmsOf
  simp only [List.length_append, List.length_cons, List.length_nil] at h4 ⊢
  omega
theorem allF_book {s : Bs} {b : Bk} (h : bookF s = some (b, [])) : allF (bookF s) = some b := by rw [h]; rfl
theorem write_read {b : Bk} (he : errF b = 0) : readF (writeF b) = (b, 0) := by
  have hb := errF_zero he
  obtain ⟨h1, h2⟩ := itmsOf_back b.gs [] hb.gs (fun y hy => by cases hy)
  have hl := write_len he
  have hk : bookF (writeF b) = some (b, []) := by
    have h := bookF_text h2 hb.signed.1 hb.signed.2
    rw [h1] at h
    exact h
  unfold readF
  rw [if_neg (by omega), allF_book hk]
  dsimp only
  rw [if_pos he]

/-- What a step onto the last item adds. -/
theorem ext_len (y : Itm) (r l : Int) : (itmT { y with kind := 1, lr := r, ll := l }).length + (if y.kind = 1 then 1 + (sigT y.lr y.ll).length else 0) = (itmT y).length + 1 + (sigT r l).length := by
  unfold itmT
  rw [if_pos rfl]
  split <;> simp <;> omega
theorem run_fold (lv : Int) : ∀ (n : Nat) (s l : Int × Int) (zs : List Itm) (y : Itm), rankS l.1 l.2 = rankS s.1 s.2 + n → (0 ≤ s.2 ∧ s.2 < 23) → (0 ≤ l.2 ∧ l.2 < 23) → y.lr = s.1 → y.ll = s.2 → y.leaves = lv → y.chs = [] →
    ((runS n s l).tail.map fun s => (⟨s.1, s.2, lv, []⟩ : Gth)).foldl itmStep (zs ++ [y]) = zs ++ [if n = 0 then y else { y with kind := 1, lr := l.1, ll := l.2 }]
  | 0, s, l, zs, y, _, _, _, _, _, _, _ => by simp [runS]
  | n + 1, s, l, zs, y, hr, hs, hl, h1, h2, h3, h4 => by
    have hne : s ≠ l := fun e => by
      rw [← e] at hr
      omega
    have hns := rank_next' hs.2
    have ho := nextS_ok (r := s.1) hs
    have ht : takesB y ⟨(nextS s.1 s.2).1, (nextS s.1 s.2).2, lv, []⟩ = true := takes_iff.2 ⟨h4, rfl, h3, by omega, by rw [h1, h2]⟩
    have e : (runS (n + 1) s l).tail = nextS s.1 s.2 :: (runS n (nextS s.1 s.2) l).tail := by
      rw [← runS_head, runS, if_neg hne]
      rfl
    have hgo := run_fold lv n (nextS s.1 s.2) l zs { y with kind := 1, lr := (nextS s.1 s.2).1, ll := (nextS s.1 s.2).2 } (by omega) ⟨ho.1, ho.2.1⟩ hl rfl rfl h3 h4
    rw [e, List.map_cons, List.foldl_cons, step_yes ht, if_neg (Nat.succ_ne_zero n)]
    refine hgo.trans ?_
    split
    · rename_i hn
      subst hn
      obtain ⟨e1, e2⟩ := rank_inj (r := l.1) (r' := (nextS s.1 s.2).1) hl ⟨ho.1, ho.2.1⟩ (by omega)
      rw [e1, e2]
    · rfl
theorem itmT_one {x : Itm} (hk : x.kind = 0) : itmT (itm1 ⟨x.fr, x.fl, x.leaves, x.chs⟩) = itmT x := by
  unfold itmT itm1
  dsimp only
  rw [if_neg (by omega), if_neg (by omega)]
/-- One more item: as it is, or shorter. -/
theorem add_item (ys : List Itm) {x : Itm} (hx : ItW x) : itemsT ((itmGs x).foldl itmStep ys) = itemsT ys ++ itmT x ++ [32] ∨ (itemsT ((itmGs x).foldl itmStep ys)).length < (itemsT ys).length + (itmT x).length + 1 := by
  have hf := sigB_iff.1 hx.first
  have hl := sigB_iff.1 hx.last
  have hd := dec_pos1 x.leaves
  rcases hx.kind with ⟨hk, -, -⟩ | ⟨hk, k1, k2, k3, hc⟩
  · have hg : itmGs x = [⟨x.fr, x.fl, x.leaves, x.chs⟩] := by unfold itmGs; rw [if_pos hk]
    have hxl : (itmT x).length = (sigT x.fr x.fl).length + (dec x.leaves).length + (chsT x.chs).length := by
      unfold itmT
      rw [if_neg (by omega)]
      simp only [List.length_append]
    rw [hg, List.foldl_cons, List.foldl_nil]
    rcases nil_or_snoc ys with rfl | ⟨zs, y, rfl⟩
    · left
      show itemsT ([] ++ [itm1 _]) = _
      rw [itemsT_snoc, itmT_one hk]
    · cases ht : takesB y ⟨x.fr, x.fl, x.leaves, x.chs⟩ with
      | false =>
        left
        rw [step_no ht, itemsT_snoc, itmT_one hk]
      | true =>
        right
        have h := ext_len y x.fr x.fl
        rw [step_yes ht, itemsT_snoc, itemsT_snoc]
        simp only [List.length_append, List.length_singleton]
        omega
  · have hr := rank_behind ⟨hl.2.2.1, k2⟩ ⟨hf.2.2.1, k1⟩ k3
    obtain ⟨n, hn⟩ : ∃ n, n = (rankS x.lr x.ll - rankS x.fr x.fl).toNat := ⟨_, rfl⟩
    have hg : itmGs x = (⟨x.fr, x.fl, x.leaves, []⟩ : Gth) :: ((runS n (x.fr, x.fl) (x.lr, x.ll)).tail.map fun s => (⟨s.1, s.2, x.leaves, []⟩ : Gth)) := by
      unfold itmGs
      rw [if_neg (by omega), ← hn, runS_head, List.map_cons]
      rfl
    have hxl : (itmT x).length = (sigT x.fr x.fl).length + 1 + (sigT x.lr x.ll).length + (dec x.leaves).length := by
      unfold itmT
      rw [if_pos hk, hc]
      simp only [chsT, if_true, List.length_append, List.length_cons, List.length_nil]
      omega
    have hrun := fun (zs : List Itm) (y : Itm) => run_fold x.leaves n (x.fr, x.fl) (x.lr, x.ll) zs y (by dsimp only; omega) ⟨hf.2.2.1, k1⟩ ⟨hl.2.2.1, k2⟩
    have hnew : ∀ zs : List Itm, itemsT (((runS n (x.fr, x.fl) (x.lr, x.ll)).tail.map fun s => (⟨s.1, s.2, x.leaves, []⟩ : Gth)).foldl itmStep (zs ++ [itm1 ⟨x.fr, x.fl, x.leaves, []⟩])) = itemsT zs ++ itmT x ++ [32] := fun zs => by
      have h := hrun zs (itm1 ⟨x.fr, x.fl, x.leaves, []⟩) rfl rfl rfl rfl
      rw [h, if_neg (by omega), itemsT_snoc]
      congr 2
      unfold itmT itm1
      dsimp only
      rw [if_pos rfl, if_pos hk, hc]
    rw [hg, List.foldl_cons]
    rcases nil_or_snoc ys with rfl | ⟨zs, y, rfl⟩
    · exact Or.inl (hnew [])
    · cases ht : takesB y ⟨x.fr, x.fl, x.leaves, []⟩ with
      | false =>
        left
        rw [step_no ht]
        exact hnew _
      | true =>
        right
        obtain ⟨t1, -, t3, -, -⟩ := takes_iff.1 ht
        have h2 := hrun zs { y with kind := 1, lr := x.fr, ll := x.fl } rfl rfl t3 t1
        rw [step_yes ht]
        refine Nat.lt_of_le_of_lt (Nat.le_of_eq (congrArg (fun z => (itemsT z).length) h2)) ?_
        dsimp only
        rw [if_neg (by omega), itemsT_snoc, itemsT_snoc]
        have h := ext_len y x.lr x.ll
        simp only [List.length_append, List.length_singleton]
        omega
theorem add_items : ∀ (xs ys : List Itm), (∀ x ∈ xs, ItW x) → itemsT ((gsOf xs).foldl itmStep ys) = itemsT ys ++ itemsT xs ∨ (itemsT ((gsOf xs).foldl itmStep ys)).length < (itemsT ys).length + (itemsT xs).length
  | [], ys, _ => by left; simp [gsOf, itemsT]
  | x :: xs, ys, h => by
    have e : gsOf (x :: xs) = itmGs x ++ gsOf xs := by simp [gsOf]
    rw [e, List.foldl_append]
    have h1 := add_item ys (h x (by simp))
    have h2 := add_items xs ((itmGs x).foldl itmStep ys) (fun y hy => h y (List.mem_cons_of_mem _ hy))
    rw [itemsT_cons]
    rcases h1 with h1 | h1
    · rcases h2 with h2 | h2
      · left
        rw [h2, h1]
        simp
      · right
        rw [h1] at h2
        simp only [List.length_append, List.length_cons, List.length_nil] at h2 ⊢
        omega
    · right
      rcases h2 with h2 | h2
      · rw [h2]
        simp only [List.length_append, List.length_cons]
        omega
      · simp only [List.length_append, List.length_cons]
        omega
/-- **No formula of a book is shorter than the one that is written, and another one is longer.** -/
theorem write_short {s : Bs} {b : Bk} (h : allF (bookF s) = some b) : s = writeF b ∨ (writeF b).length < s.length := by
  obtain ⟨xs, rfl, hg, hw, -, -⟩ := bookF_is h
  have h1 := add_items xs [] hw
  rw [← hg] at h1
  show _ ∨ (formulaT b.signed (itmsOf b.gs)).length < _
  show _ = formulaT b.signed (itmsOf b.gs) ∨ _
  rw [formulaT_is]
  unfold itmsOf
  rcases h1 with h1 | h1
  · left
    rw [h1]
    rfl
  · right
    have e0 : (itemsT ([] : List Itm)).length = 0 := rfl
    simp only [List.length_append, List.length_cons]
    omega
end Go.Proofs.YtlfglbnbenaghaaGreatDoor
