/- The parts Wf, Wg of the proof, joined. It holds without conditions of its own. -/
import Derived.Test.YtimdmgkegdlafaaGreatDoorCH35
import Derived.Test.YtimdmgkegdlafaaGreatDoorCH8
/- Contract of itemsOf. -/
namespace Go.Proofs.YtimdmgkegdlafaaGreatDoor
set_option linter.unusedSimpArgs false
set_option linter.unusedVariables false
open Go Go.RowKit Go.Sort Go.BigFrame

theorem nil_or_snoc {α : Type} (xs : List α) : xs = [] ∨ ∃ zs x, xs = zs ++ [x] := by
  rcases List.eq_nil_or_concat xs with h | ⟨zs, x, h⟩
  · exact Or.inl h
  · exact Or.inr ⟨zs, x, by rw [h]; simp⟩
theorem GOk.chOk {g : Gth} (h : GOk g) : ∀ c ∈ g.chs, ChOk c := fun c hc => by
  obtain ⟨h1, h2, h3, h4, h5⟩ := h.ch hc
  have := h.leaves
  exact ⟨h1, h2, by omega, h4, by omega⟩
theorem itm1_ok {g : Gth} (h : GOk g) : ItOk (itm1 g) := ⟨h.sig, h.sig, by have := h.leaves; exact ⟨by show 0 ≤ g.leaves; omega, by show g.leaves < 100; omega⟩, h.few, h.chOk⟩
theorem ysStep_ok {ys : List (Itm × Value)} {z : Gth × Value} (h : ∀ y ∈ ys, ItOk y.1) (hz : GOk z.1) : ∀ y ∈ ysStep ys z, ItOk y.1 := by
  intro y hy
  rcases nil_or_snoc ys with rfl | ⟨zs, x, rfl⟩
  · simp only [ysStep, List.getLast?_nil, List.mem_singleton] at hy
    subst hy; exact itm1_ok hz
  · simp only [ysStep, List.getLast?_append, List.getLast?_singleton, Option.some_or] at hy
    split at hy
    · rcases List.mem_append.1 hy with hy | hy
      · exact h y (by simp at hy; simp [hy])
      · simp only [List.mem_singleton] at hy
        subst hy
        have hx := h x (by simp)
        exact ⟨hx.first, hz.sig, hx.leaves, hx.few, hx.chs⟩
    · rcases List.mem_append.1 hy with hy | hy
      · exact h y hy
      · simp only [List.mem_singleton] at hy; subst hy; exact itm1_ok hz
theorem itmsOf_take {gs : List Gth} {k : Nat} {g : Gth} (h : gs[k]? = some g) : itmsOf (gs.take (k + 1)) = itmStep (itmsOf (gs.take k)) g := by
  unfold itmsOf
  rw [(take_split h).2, List.foldl_append]; rfl

set_option maxRecDepth 100000 in
set_option maxHeartbeats 8000000 in
theorem itemsOf_any (gs : List Gth) (v : Value) (w : World) (hv : GsAt w.heap.size w v gs) (hok : ∀ g ∈ gs, GOk g) (hn : gs.length ≤ 100) :
    Calls Tryz.prog 24 #[v] w fun e w' => (∃ v' ys, e = .returned v' ∧ ys.map (·.1) = itmsOf gs ∧ (∀ y ∈ ys, ItOk y.1) ∧ ys.length ≤ 100 ∧ Its w w' v' ys) ∧ Below w.heap.size w w' := by
  obtain ⟨a, cap, rfl, hcell⟩ := hv
  obtain ⟨n, hnn⟩ : ∃ n, n = gs.length := ⟨_, rfl⟩
  have HCE := Lib.hid hcell
  have HOK := Lib.hid hok
  have HN := Lib.hid hnn
  have hn' : n ≤ 100 := by omega
  rw [← hnn]
  clear hcell hok hnn hn
  go_enter Tryz.func24, Tryz.ntmps24
  go_wp2_with fail
  go_loopw [3, 9] (fun v i wr => ∃ (k : Nat) (ys : List (Itm × Value)), k ≤ n ∧ i = .int .i64 k ∧ ys.length ≤ k ∧ Hid (ys.map (·.1) = itmsOf (gs.take k)) ∧ Hid (∀ y ∈ ys, ItOk y.1) ∧ Hid (Its w wr v ys)) (fun _ i _ => n - (intOf i).toNat)
  case atStart => exact ⟨0, [], by omega, rfl, by simp, rfl, fun y hy => (by cases hy), World.ownsRow_nil _ _ _ _, fun y hy => (by cases hy), Below.refl _ _⟩
  case round =>
    obtain ⟨k, ys, hk, rfl, hyl, HY, HO, HI⟩ := hrel
    by_cases hlt : k < n
    · obtain ⟨g, hg⟩ : ∃ g, gs[k]? = some g := ⟨_, List.getElem?_eq_getElem (by have := HN.out; omega)⟩
      have hgok := HOK.out g (List.mem_of_getElem? hg)
      obtain ⟨b, off, rfl, hbw, hcl⟩ := HCE.out (fun e => by rw [e] at hg; cases hg)
      obtain ⟨cv, hcc, q0, q1, q2, q3⟩ := hcl k g hg
      have HST0 : Hid (itmsOf (gs.take (k + 1)) = itmStep (itmsOf (gs.take k)) g) := itmsOf_take hg
      obtain ⟨gr, gl, gv, gc⟩ := g
      dsimp only at hcc q0 q1 q2 q3
      have HCC := Lib.hid hcc
      obtain ⟨ca, ccap, rfl, -⟩ := hcc
      have hcl' : ∀ i v, w.cell? ⟨b, i, none⟩ = some v → wr.cell? ⟨b, i, none⟩ = some v := fun i v h => (HI.out.below.cell (p := ⟨b, i, none⟩) hbw).trans h
      have q0 := hcl' _ _ q0
      have q1 := hcl' _ _ q1
      have q2 := hcl' _ _ q2
      have q3 := hcl' _ _ q3
      obtain ⟨ei, hi1, hi2, hi3, hi4⟩ := elemIt
      have hz := HI.out.below.size
      have HGK := Lib.hid hgok
      have HST : Hid ((ysStep ys (⟨gr, gl, gv, gc⟩, .slice ca gc.length ccap)).map (·.1) = itmsOf (gs.take (k + 1))) := by show _ = _; rw [ysStep_map, HY.out, HST0.out]
      have HOK2 : Hid (∀ y ∈ ysStep ys (⟨gr, gl, gv, gc⟩, .slice ca gc.length ccap), ItOk y.1) := ysStep_ok HO.out hgok
      clear hcl hcl' hg hgok HST0
      rcases nil_or_snoc ys with rfl | ⟨zs, y, rfl⟩
      · have HYS : Hid (ysStep [] ((⟨gr, gl, gv, gc⟩ : Gth), Value.slice ca gc.length ccap) = [] ++ [(itm1 ⟨gr, gl, gv, gc⟩, .slice ca gc.length ccap)]) := by show _ = _; rfl
        obtain ⟨a3, c3, hu3⟩ : ∃ a3 c3, u3 = .slice a3 0 c3 := by
          rcases HI.out.row.2 with ⟨rfl, -⟩ | ⟨g, cap, cur, rfl, -⟩
          · exact ⟨_, _, rfl⟩
          · exact ⟨_, _, rfl⟩
        subst hu3
        go_wp2_with fail
        refine wp_region_quiet_below (by kernel_rfl) (by kernel_rfl) ?_; (repeat (go_big_quiet_step (fail))); refine wpQuiet_nil ?_; rintro w3 ⟨⟨d3, os3⟩, rfl⟩
        have hb13 := below_regrown (wr.alloc (.cells #[.int .i64 gr, .int .i64 gl, .int .i64 gv, .slice ca gc.length ccap] 42)) d3 os3
        have HI2 := Lib.hid ((HI.out.same (by exact (by repeat (first | exact Below.refl _ _ | assumption | (refine Below.alloc ?_ ?_ _; rotate_left; · (first | omega | (simp; done) | (simp; omega) | fail)) | (refine Below.setCell ?_ ?_ _; rotate_left; · (first | omega | (simp; done) | (simp; omega) | fail)) | refine Below.drew ?_ | fail)))).same hb13)
        have hq : (grow (redrawn (wr.alloc (.cells #[.int .i64 gr, .int .i64 gl, .int .i64 gv, .slice ca gc.length ccap] 42)) d3) os3).heap[wr.heap.size]? = some (.cells #[.int .i64 gr, .int .i64 gl, .int .i64 gv, .slice ca gc.length ccap] 42) := blk_later hb13 (heap_alloc_at _ _ _ rfl)
        have hz3 := hb13.size
        clear hb13 HI q0 q1 q2 q3
        revert HI2 hq hz3
        generalize grow (redrawn (wr.alloc (.cells #[.int .i64 gr, .int .i64 gl, .int .i64 gv, .slice ca gc.length ccap] 42)) d3) os3 = w4
        intro HI2 hq hz3
        simp only [World.size_alloc] at hz3
        have d0 := blk_cell hq 0; have d1 := blk_cell hq 1; have d2 := blk_cell hq 2; have d3 := blk_cell hq 3
        go_wp2_with (at_builtin; refine wpList_append_own _ rfl _ _ 61 rfl w.heap.size 102 ei _ 7 72 undIts hi1 hi2 hi3 hi4 rfl (by decide) _ ([]).length (itCells []) rfl (HI2.out.row.alloc _) ⟨_, 0, none⟩ 1 1 (itC (itm1 ⟨gr, gl, gv, gc⟩, .slice ca gc.length ccap)) rfl rfl ?c1 ?c2 ?c3 ?c4 ?c5 ?c6)
        case c1 => first | (intro j u h; exact h) | exact cells_new _ _ _
        case c2 => exact itC_one _ ⟨_, _, _, rfl⟩
        case c3 => simp only [maxLen]; omega
        case c4 => omega
        case c5 => first | omega | (simp; omega)
        case c6 =>
          rintro v' w' hown hgrow -
          have HI3 := Lib.hid ((HI2.out.same (by exact (by repeat (first | exact Below.refl _ _ | assumption | (refine Below.alloc ?_ ?_ _; rotate_left; · (first | omega | (simp; done) | (simp; omega) | fail)) | (refine Below.setCell ?_ ?_ _; rotate_left; · (first | omega | (simp; done) | (simp; omega) | fail)) | refine Below.drew ?_ | fail)))).add (y := (itm1 ⟨gr, gl, gv, gc⟩, .slice ca gc.length ccap)) HCC.out hown hgrow)
          clear hown hgrow
          go_wp2_with fail
          go_roundw
          case rel => exact ⟨k + 1, [] ++ [(itm1 ⟨gr, gl, gv, gc⟩, .slice ca gc.length ccap)], by omega, by go_num, (by rw [List.length_append, List.length_singleton]; omega), HYS.out ▸ HST, HYS.out ▸ HOK2, HI3⟩
          case measure => simp [intOf]; omega
      · obtain ⟨⟨xk, xfr, xfl, xlr, xll, xlv, xch⟩, xcv⟩ := y
        have hxc := HI.out.chs (⟨xk, xfr, xfl, xlr, xll, xlv, xch⟩, xcv) (by simp)
        have hxo := HO.out (⟨xk, xfr, xfl, xlr, xll, xlv, xch⟩, xcv) (by simp)
        dsimp only at hxc
        obtain ⟨xa, xcap, rfl, -⟩ := hxc
        have hxb := sig_bounds hxo.last
        dsimp only at hxb
        obtain ⟨g, gcap, rfl, hgb, hgl, ⟨y0, y1, y2, y3, y4, y5, y6⟩, hfr, hset⟩ := HI.out.last
        dsimp only at y0 y1 y2 y3 y4 y5 y6 hset
        obtain ⟨m, hm⟩ : ∃ m, m = zs.length := ⟨_, rfl⟩
        have HMM := Lib.hid hm
        have hmk : m + 1 ≤ k := by simp only [List.length_append, List.length_singleton] at hyl; omega
        obtain ⟨B, hB⟩ : ∃ B : Bool, B = takesB ⟨xk, xfr, xfl, xlr, xll, xlv, xch⟩ ⟨gr, gl, gv, gc⟩ := ⟨_, rfl⟩
        have HYS : Hid (ysStep (zs ++ [((⟨xk, xfr, xfl, xlr, xll, xlv, xch⟩ : Itm), Value.slice xa xch.length xcap)]) ((⟨gr, gl, gv, gc⟩ : Gth), Value.slice ca gc.length ccap) =
            if B then zs ++ [((⟨1, xfr, xfl, gr, gl, xlv, xch⟩ : Itm), Value.slice xa xch.length xcap)] else (zs ++ [((⟨xk, xfr, xfl, xlr, xll, xlv, xch⟩ : Itm), Value.slice xa xch.length xcap)]) ++ [(itm1 ⟨gr, gl, gv, gc⟩, .slice ca gc.length ccap)]) := by
          show _ = _; rw [hB]; simp [ysStep]
        have hT : ∀ w, Calls Tryz.prog 51 #[.agg #[.int .i64 xk, .int .i64 xfr, .int .i64 xfl, .int .i64 xlr, .int .i64 xll, .int .i64 xlv, .slice xa xch.length xcap], .agg #[.int .i64 gr, .int .i64 gl, .int .i64 gv, .slice ca gc.length ccap]] w fun e w' => e = .returned (.bool B) ∧ Below w.heap.size w w' := fun w => by
          rw [hB]; exact takes_any xk xfr xfl xlr xll xlv gr gl gv xa ca xch.length gc.length xcap ccap w (by omega) (by omega)
        have HT := Lib.hid hT
        have HSET := Lib.hid hset
        rw [← hm] at y0 y1 y2 y3 y4 y5 y6
        rw [← hm]
        clear hT hset hB hm hxo
        have HFR := Lib.hid hfr
        clear hfr
        have hwrap : IntKind.i64.wrap ((m : Int) + 1 - 1) = m := by rw [Int.add_sub_cancel]; exact IntWalk.i64_in _ (by omega)
        obtain ⟨w1, hw1⟩ : ∃ w1, w1 = wr.alloc (.cells #[.int .i64 gr, .int .i64 gl, .int .i64 gv, .slice ca gc.length ccap] 42) := ⟨_, rfl⟩
        have hb1 : Below wr.heap.size wr w1 := by rw [hw1]; exact (by repeat (first | exact Below.refl _ _ | assumption | (refine Below.alloc ?_ ?_ _; rotate_left; · (first | omega | (simp; done) | (simp; omega) | fail)) | (refine Below.setCell ?_ ?_ _; rotate_left; · (first | omega | (simp; done) | (simp; omega) | fail)) | refine Below.drew ?_ | fail))
        have hd0 : w1.heap[wr.heap.size]? = some (.cells #[.int .i64 gr, .int .i64 gl, .int .i64 gv, .slice ca gc.length ccap] 42) := by rw [hw1]; exact (by repeat (first | exact heap_alloc_at _ _ _ (by (first | omega | (simp; done) | (simp; omega) | fail)) | (refine (heap_alloc_past _ _ _ ?_).trans ?_; · (first | omega | (simp; done) | (simp; omega) | fail)) | fail))
        have hy : ∀ i v, wr.cell? ⟨g, i, none⟩ = some v → w1.cell? ⟨g, i, none⟩ = some v := fun i v h => (hb1.cell (p := ⟨g, i, none⟩) hgl).trans h
        have HY2 := Lib.hid hy
        have HB1 := Lib.hid hb1
        have HD := Lib.hid hd0
        clear hb1 hd0 hy hwrap
        go_wp2_with fail
        rw [← hw1]
        clear hw1
        have hd0 := HD.out
        have d0 := blk_cell hd0 0; have d1 := blk_cell hd0 1; have d2 := blk_cell hd0 2; have d3 := blk_cell hd0 3
        have t0 := cell_regrown d0
        have t1 := cell_regrown d1
        have t2 := cell_regrown d2
        have t3 := cell_regrown d3
        have p0 := cell_regrown (HY2.out _ _ y0)
        have p1 := cell_regrown (HY2.out _ _ y1)
        have p2 := cell_regrown (HY2.out _ _ y2)
        have p3 := cell_regrown (HY2.out _ _ y3)
        have p4 := cell_regrown (HY2.out _ _ y4)
        have p5 := cell_regrown (HY2.out _ _ y5)
        have p6 := cell_regrown (HY2.out _ _ y6)
        have cT : ∀ d os, Calls Tryz.prog 51 #[.agg #[.int .i64 xk, .int .i64 xfr, .int .i64 xfl, .int .i64 xlr, .int .i64 xll, .int .i64 xlv, .slice xa xch.length xcap], .agg #[.int .i64 gr, .int .i64 gl, .int .i64 gv, .slice ca gc.length ccap]] (grow (redrawn w1 d) os) (fun e w'' => e = .returned (.bool B) ∧ ∃ p : Regrown, w'' = grow (redrawn w1 p.d) p.os) := fun d os => Calls.regrown_of (HT.out _)
        have a1 : IntKind.i64.wrap ((m : Int) + 1 - 1) = m := by rw [Int.add_sub_cancel]; exact IntWalk.i64_in _ (by omega)
        have a2 : IntKind.i64.wrap (m : Int) = m := IntWalk.i64_in _ (by omega)
        have a3 : (0 : Int) < (m : Int) + 1 := by omega
        have a4 : (m : Int) < (m : Int) + 1 := by omega
        have a5 : (0 : Int) ≤ (m : Int) := by omega
        clear hd0 q0 q1 q2 q3 d0 d1 d2 d3
        refine wp_region_quiet_below (by kernel_rfl) (by kernel_rfl) ?_; (repeat (go_big_quiet_step (exact cT _ _))); refine wpQuiet_nil ?_; rintro w3 ⟨⟨d3, os3⟩, rfl⟩
        have hb13 := below_regrown w1 d3 os3
        have HI4 := Lib.hid ((HI.out.same HB1.out).same hb13)
        have HD4 := Lib.hid (blk_later hb13 HD.out)
        clear cT HT hb13 t0 t1 t2 t3 p0 p1 p2 p3 p4 p5 p6 y0 y1 y2 y3 y4 y5 y6 a1 a2 a3 a4 HSET HFR HY2 HB1 HD HI
        revert HI4 HD4
        generalize grow (redrawn w1 d3) os3 = w4
        intro HI4 HD4
        obtain ⟨g2, gcap2, heq, hgb4, hgl4, ⟨y0, y1, y2, y3, y4, y5, y6⟩, hfr4, hset4⟩ := HI4.out.last
        cases heq
        dsimp only at y0 y1 y2 y3 y4 y5 y6 hset4
        have HSET := Lib.hid (hset4 gr gl)
        rw [← HMM.out] at HSET y0 y1 y2 y3 y4 y5 y6
        have f0 := hfr4 (m * 7)
        have f3 := hfr4 (m * 7 + 3)
        have f4 := hfr4 (m * 7 + 4)
        clear hset4 hfr4
        have hd0 := HD4.out
        have d0 := blk_cell hd0 0; have d1 := blk_cell hd0 1; have d2 := blk_cell hd0 2; have d3 := blk_cell hd0 3
        have hzd := blk_lt hd0
        clear hd0
        cases B with
        | true =>
          have HYS' : Hid (ysStep (zs ++ [((⟨xk, xfr, xfl, xlr, xll, xlv, xch⟩ : Itm), Value.slice xa xch.length xcap)]) ((⟨gr, gl, gv, gc⟩ : Gth), Value.slice ca gc.length ccap) = zs ++ [((⟨1, xfr, xfl, gr, gl, xlv, xch⟩ : Itm), Value.slice xa xch.length xcap)]) := HYS.out
          go_wp2_with fail
          go_roundw
          case rel => exact ⟨k + 1, zs ++ [((⟨1, xfr, xfl, gr, gl, xlv, xch⟩ : Itm), Value.slice xa xch.length xcap)], by omega, by go_num, (by rw [List.length_append, List.length_singleton, ← HMM.out]; omega), HYS'.out ▸ HST, HYS'.out ▸ HOK2, HSET⟩
          case measure => simp [intOf]; omega
        | false =>
          have HYS : Hid (ysStep (zs ++ [((⟨xk, xfr, xfl, xlr, xll, xlv, xch⟩ : Itm), Value.slice xa xch.length xcap)]) ((⟨gr, gl, gv, gc⟩ : Gth), Value.slice ca gc.length ccap) = (zs ++ [((⟨xk, xfr, xfl, xlr, xll, xlv, xch⟩ : Itm), Value.slice xa xch.length xcap)]) ++ [(itm1 ⟨gr, gl, gv, gc⟩, .slice ca gc.length ccap)]) := HYS.out
          have HI2 := HI4
          clear y0 y1 y2 y3 y4 y5 y6 f0 f3 f4 HSET
          obtain ⟨ys, hys⟩ : ∃ ys, ys = zs ++ [((⟨xk, xfr, xfl, xlr, xll, xlv, xch⟩ : Itm), Value.slice xa xch.length xcap)] := ⟨_, rfl⟩
          have hysl : ys.length = m + 1 := by rw [hys, HMM.out]; simp
          rw [← hys] at HYS HI2 HST HOK2
          have HYL := Lib.hid hysl
          have hyl1 : ys.length ≤ m + 1 := by omega
          rw [← HMM.out] at HI2
          clear hys hysl HI4
          go_wp2_with (at_builtin; refine wpList_append_own _ rfl _ _ 61 rfl w.heap.size 102 ei _ 7 72 undIts hi1 hi2 hi3 hi4 rfl (by decide) _ (ys).length (itCells ys) rfl (HI2.out.row.alloc _) ⟨_, 0, none⟩ 1 1 (itC (itm1 ⟨gr, gl, gv, gc⟩, .slice ca gc.length ccap)) rfl rfl ?c1 ?c2 ?c3 ?c4 ?c5 ?c6)
          case c1 => first | (intro j u h; exact h) | exact cells_new _ _ _
          case c2 => exact itC_one _ ⟨_, _, _, rfl⟩
          case c3 => simp only [maxLen]; omega
          case c4 => omega
          case c5 => first | omega | (simp; omega)
          case c6 =>
            rintro v' w' hown hgrow -
            have HI3 := Lib.hid ((HI2.out.same (by exact (by repeat (first | exact Below.refl _ _ | assumption | (refine Below.alloc ?_ ?_ _; rotate_left; · (first | omega | (simp; done) | (simp; omega) | fail)) | (refine Below.setCell ?_ ?_ _; rotate_left; · (first | omega | (simp; done) | (simp; omega) | fail)) | refine Below.drew ?_ | fail)))).add (y := (itm1 ⟨gr, gl, gv, gc⟩, .slice ca gc.length ccap)) HCC.out hown hgrow)
            clear hown hgrow
            go_wp2_with fail
            go_roundw
            case rel => exact ⟨k + 1, ys ++ [(itm1 ⟨gr, gl, gv, gc⟩, .slice ca gc.length ccap)], by omega, by go_num, (by rw [List.length_append, List.length_singleton]; omega), HYS.out ▸ HST, HYS.out ▸ HOK2, HI3⟩
            case measure => simp [intOf]; omega
    · obtain rfl : k = n := by omega
      have hF : Hid (ys.map (·.1) = itmsOf gs) := by show _ = _; rw [HY.out, HN.out, List.take_length]
      go_wp2_with fail
      go_ret
      exact ⟨⟨_, ys, rfl, hF.out, HO.out, by omega, HI.out⟩, HI.out.below⟩

end Go.Proofs.YtimdmgkegdlafaaGreatDoor

/- Contracts of formula and Write. -/
namespace Go.Proofs.YtimdmgkegdlafaaGreatDoor
set_option linter.unusedSimpArgs false
set_option linter.unusedVariables false
open Go Go.RowKit Go.Sort Go.BigFrame

theorem itmT_len {x : Itm} (h : ItOk x) : (itmT x).length ≤ 39 := by
  have h1 := sigT_len x.fr x.fl
  have h2 := sigT_len x.lr x.ll
  have h3 := dec_len x.leaves
  have h4 := chsT_len h.few
  unfold itmT
  split <;> simp only [List.length_append, List.length_cons] <;> omega
/-- The text of some items, one behind the other. -/
def itmsT (xs : List Itm) : Bs := xs.flatMap fun x => itmT x ++ [32]
theorem itmsT_len {xs : List Itm} (h : ∀ x ∈ xs, ItOk x) : (itmsT xs).length ≤ xs.length * 40 := by
  unfold itmsT
  refine flatMap_len fun x hx => ?_
  have := itmT_len (h x hx)
  simp only [List.length_append, List.length_singleton]
  omega
theorem itmsT_take {xs : List Itm} {k : Nat} {x : Itm} (h : xs[k]? = some x) : itmsT (xs.take (k + 1)) = itmsT (xs.take k) ++ (itmT x ++ [32]) := by
  unfold itmsT
  rw [(take_split h).2]
  simp

set_option maxRecDepth 100000 in
set_option maxHeartbeats 4000000 in
theorem formula_any (sg : Int) (ys : List (Itm × Value)) (v : Value) (w : World) (hs : 0 ≤ sg ∧ sg < 100) (hv : ItsAt w v ys) (hc : ∀ y ∈ ys, ChsAt w.heap.size w y.2 y.1.chs) (ho : ∀ y ∈ ys, ItOk y.1) (hn : ys.length ≤ 100) :
    Calls Tryz.prog 23 #[.int .i64 sg, v] w fun e w' => e = .returned (S (formulaT sg (ys.map (·.1)))) ∧ Below w.heap.size w w' := by
  obtain ⟨a, cap, rfl, hcell⟩ := hv
  obtain ⟨n, hnn⟩ : ∃ n, n = ys.length := ⟨_, rfl⟩
  have HCE := Lib.hid hcell
  have HCH := Lib.hid hc
  have HO := Lib.hid ho
  have HN := Lib.hid hnn
  have hn' : n ≤ 100 := by omega
  rw [← hnn]
  have zsp : (⟨#[32]⟩ : ByteArray).size ≤ 1 := by decide
  have zdo : (⟨#[36]⟩ : ByteArray).size ≤ 1 := by decide
  have zsg : (⟨(dec sg).toArray⟩ : ByteArray).size ≤ 2 := by rw [size_bytes]; exact dec_len sg
  clear hcell hc ho hnn hn
  go_enter Tryz.func23, Tryz.ntmps23
  go_wp2_with fail
  go_loopw [5, 10] (fun t i wr => ∃ (k : Nat) (tx : Bs), k ≤ n ∧ i = .int .i64 k ∧ t = S tx ∧ Hid (tx = itmsT ((ys.take k).map (·.1))) ∧ Hid (Below w.heap.size w wr)) (fun _ i _ => n - (intOf i).toNat)
  case atStart => exact ⟨0, [], by omega, rfl, rfl, rfl, Below.refl _ _⟩
  case round =>
    obtain ⟨k, tx, hk, rfl, rfl, HT, HB⟩ := hrel
    have htl : tx.length ≤ 4000 := by
      rw [HT.out]
      have := itmsT_len (xs := (ys.take k).map (·.1)) fun x hx => by
        obtain ⟨y, hy, rfl⟩ := List.mem_map.1 hx
        exact HO.out y (List.mem_of_mem_take hy)
      simp only [List.length_map, List.length_take] at this
      omega
    have ztx : (⟨tx.toArray⟩ : ByteArray).size ≤ 4000 := by rw [size_bytes]; exact htl
    have hz := HB.out.size
    by_cases hlt : k < n
    · obtain ⟨y, hy⟩ : ∃ y, ys[k]? = some y := ⟨_, List.getElem?_eq_getElem (by have := HN.out; omega)⟩
      have hym := List.mem_of_getElem? hy
      have hyo := HO.out y hym
      have hyc := HCH.out y hym
      obtain ⟨b, rfl, hbw, hcl⟩ := HCE.out (fun e => by rw [e] at hy; cases hy)
      obtain ⟨q0, q1, q2, q3, q4, q5, q6⟩ := hcl k y hy
      have hst : Hid (itmsT ((ys.take (k + 1)).map (·.1)) = tx ++ (itmT y.1 ++ [32])) := by
        show _ = _
        rw [HT.out, List.map_take, List.map_take]
        exact itmsT_take (by rw [List.getElem?_map, hy]; rfl)
      have hcl' : ∀ i v, w.cell? ⟨b, i, none⟩ = some v → wr.cell? ⟨b, i, none⟩ = some v := fun i v h => (HB.out.cell (p := ⟨b, i, none⟩) hbw).trans h
      have q0 := hcl' _ _ q0
      have q1 := hcl' _ _ q1
      have q2 := hcl' _ _ q2
      have q3 := hcl' _ _ q3
      have q4 := hcl' _ _ q4
      have q5 := hcl' _ _ q5
      have q6 := hcl' _ _ q6
      obtain ⟨x, xv⟩ := y
      dsimp only at hyc hyo q0 q1 q2 q3 q4 q5 q6
      have HYC := Lib.hid hyc
      have HYO := Lib.hid hyo
      obtain ⟨xa, xcap, rfl, -⟩ := hyc
      have zit : (⟨(itmT x).toArray⟩ : ByteArray).size ≤ 39 := by rw [size_bytes]; exact itmT_len hyo
      have zis : ((⟨(itmT x).toArray⟩ : ByteArray) ++ ⟨#[32]⟩).size ≤ 40 := by rw [ByteArray.size_append]; omega
      clear hcl hcl' hy hym hyo htl HT
      go_wp2_with fail
      refine (itemText_any x (.slice xa x.chs.length xcap) _ HYO.out (((HYC.out.same (fun j hj => HB.out.block j hj)).mono hz).below (C := wr.heap.size) (by exact (by repeat (first | exact Below.refl _ _ | assumption | (refine Below.alloc ?_ ?_ _; rotate_left; · (first | omega | (simp; done) | (simp; omega) | fail)) | (refine Below.setCell ?_ ?_ _; rotate_left; · (first | omega | (simp; done) | (simp; omega) | fail)) | refine Below.drew ?_ | fail))) (Nat.le_refl _) |>.mono (by simp))).mono ?_
      rintro e w2 ⟨rfl, hb⟩
      have HB2 := Lib.hid (HB.out.trans (Below.trans (by exact (by repeat (first | exact Below.refl _ _ | assumption | (refine Below.alloc ?_ ?_ _; rotate_left; · (first | omega | (simp; done) | (simp; omega) | fail)) | (refine Below.setCell ?_ ?_ _; rotate_left; · (first | omega | (simp; done) | (simp; omega) | fail)) | refine Below.drew ?_ | fail))) (hb.mono (by simp; omega))))
      clear hb q0 q1 q2 q3 q4 q5 q6 HB
      go_wp2_with fail
      rw [show (⟨#[32]⟩ : ByteArray) = ⟨[32].toArray⟩ from rfl, cat_bytes, cat_bytes]
      go_roundw
      case rel => exact ⟨k + 1, _, by omega, by go_num, rfl, hst.out.symm, HB2⟩
      case measure => simp [intOf]; omega
    · obtain rfl : k = n := by omega
      have hF : Hid (formulaT sg (ys.map (·.1)) = (tx ++ [36]) ++ dec sg) := by
        show _ = _
        rw [HT.out, HN.out, List.take_length]
        simp [formulaT, itmsT]
      have ztd : ((⟨tx.toArray⟩ : ByteArray) ++ ⟨#[36]⟩).size ≤ 4001 := by rw [ByteArray.size_append]; omega
      clear htl HT
      go_wp2_with fail
      refine (Itoa_any sg hs.1 hs.2 _).mono ?_
      rintro e w2 ⟨rfl, rfl⟩
      go_wp2_with fail
      go_ret
      exact ⟨ret_S (by rw [hF.out, show (⟨#[36]⟩ : ByteArray) = ⟨[36].toArray⟩ from rfl, cat_bytes, cat_bytes]), HB.out⟩

end Go.Proofs.YtimdmgkegdlafaaGreatDoor
