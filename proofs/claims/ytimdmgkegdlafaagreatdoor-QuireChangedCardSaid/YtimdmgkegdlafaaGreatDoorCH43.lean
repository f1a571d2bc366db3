/- The parts Ad of the proof, joined. It holds without conditions of its own. -/
import Derived.Test.YtimdmgkegdlafaaGreatDoorCH31
import Derived.Test.YtimdmgkegdlafaaGreatDoorCH1
import Derived.BigRegion
/- The law's comparison of two books. -/
namespace Go.Proofs.YtimdmgkegdlafaaGreatDoor
set_option linter.unusedSimpArgs false
set_option linter.unusedVariables false
open Go Go.RowKit Go.Sort Go.BigFrame Go.Shelf
attribute [local go_sem] Oper.semAt_some putAll

theorem cell_alloc {W : World} {b i : Nat} {v : Value} (h : W.cell? ⟨b, i, none⟩ = some v) (hb : b < W.heap.size) (o : Obj) : (W.alloc o).cell? ⟨b, i, none⟩ = some v := by
  rw [← h]; exact World.cell?_of_block (heap_alloc_past _ _ _ (by omega))
theorem cell_alloc2 {W : World} {b i : Nat} {v : Value} (h : W.cell? ⟨b, i, none⟩ = some v) (hb : b < W.heap.size) (o o' : Obj) : ((W.alloc o).alloc o').cell? ⟨b, i, none⟩ = some v :=
  cell_alloc (cell_alloc h hb o) (by simp; omega) o'

/-- What Same hands back. -/
def SameR (b c : Bk) (e : Ending) : Prop := ∃ B : Bool, e = .returned (.bool B) ∧ (B = true ↔ b = c)
theorem SameR.no {b c : Bk} {e : Ending} (h : ¬ b = c) (he : e = .returned (.bool false)) : SameR b c e := ⟨false, he, (fun h => by cases h), (fun e => absurd e h)⟩
theorem SameR.yes {b c : Bk} {e : Ending} (h : b = c) (he : e = .returned (.bool true)) : SameR b c e := ⟨true, he, (fun _ => h), (fun _ => rfl)⟩
theorem same_ne {s s' : Int} {gs hs : List Gth} {k : Nat} {x y : Gth} (hx : gs[k]? = some x) (hy : hs[k]? = some y) (h : x ≠ y) : ¬ (⟨s, gs⟩ : Bk) = ⟨s', hs⟩ := fun e => by
  injection e with e1 e2
  rw [e2, hy] at hx
  cases hx
  exact h rfl

/-- Where the two books lie. -/
structure Sm (w wr : World) (s1 s2 : Int) (v1 v2 : Value) : Prop where
  b0 : wr.heap[w.heap.size]? = some (.cells #[.int .i64 s1, v1] 24)
  b1 : wr.heap[w.heap.size + 1]? = some (.cells #[.int .i64 s2, v2] 24)
  below : Below w.heap.size w wr

theorem Sm.drewN {w wr : World} {s1 s2 : Int} {v1 v2 : Value} (h : Sm w wr s1 s2 v1 v2) (q : Nat) : Sm w (wr.drewN q) s1 s2 v1 v2 := ⟨h.b0, h.b1, bdrewN h.below q⟩

set_option maxRecDepth 100000 in
set_option maxHeartbeats 8000000 in
theorem Same_any (b c : Bk) (v u : Value) (w : World) (hv : BookAt w.heap.size w v b) (hu : BookAt w.heap.size w u c) (hl : b.gs.length < 1000000)
    (hl2 : ∀ g ∈ b.gs, g.chs.length < 1000000) :
    Calls Tryz.prog 11 #[v, u] w fun e w' => SameR b c e ∧ Below w.heap.size w w' := by
  obtain ⟨sv, rfl, hgs⟩ := hv
  obtain ⟨ax, capx, rfl, hx⟩ := hgs
  obtain ⟨sv2, rfl, hgs2⟩ := hu
  obtain ⟨ay, capy, rfl, hy⟩ := hgs2
  have HX := Lib.hid hx
  have HY := Lib.hid hy
  clear hx hy
  obtain ⟨s1, gs⟩ := b
  obtain ⟨s2, hs⟩ := c
  dsimp only at *
  obtain ⟨n, hn⟩ : ∃ n, n = gs.length := ⟨_, rfl⟩
  obtain ⟨m, hm⟩ : ∃ m, m = hs.length := ⟨_, rfl⟩
  rw [← hn] at hl
  rw [← hn, ← hm]
  have HN := Lib.hid hn
  have HM := Lib.hid hm
  have HL := Lib.hid hl2
  clear hn hm hl2
  by_cases hne : s1 = s2 ∧ n = m
  · obtain ⟨rfl, hnm⟩ := hne
    have hnb : ((n : Int) != (m : Int)) = false := by simp [hnm]
    have hss : (s1 != s1) = false := by simp
    subst hnm
    go_enter Tryz.func11, Tryz.ntmps11
    go_wp2
    have H0 : Hid (Sm w ((w.alloc (.cells #[.int .i64 s1, .slice ax n capx] 24)).alloc (.cells #[.int .i64 s1, .slice ay n capy] 24)) s1 s1 (.slice ax n capx) (.slice ay n capy)) :=
      ⟨by exact (by repeat (first | exact heap_alloc_at _ _ _ (by (first | omega | (simp; done) | (simp; omega) | fail)) | (refine (heap_alloc_past _ _ _ ?_).trans ?_; · (first | omega | (simp; done) | (simp; omega) | fail)) | fail)), by exact (by repeat (first | exact heap_alloc_at _ _ _ (by (first | omega | (simp; done) | (simp; omega) | fail)) | (refine (heap_alloc_past _ _ _ ?_).trans ?_; · (first | omega | (simp; done) | (simp; omega) | fail)) | fail)), by exact (by repeat (first | exact Below.refl _ _ | assumption | (refine Below.alloc ?_ ?_ _; rotate_left; · (first | omega | (simp; done) | (simp; omega) | fail)) | (refine Below.setCell ?_ ?_ _; rotate_left; · (first | omega | (simp; done) | (simp; omega) | fail)) | refine Below.drew ?_ | fail))⟩
    go_loopg [5] n (fun g i wr => ∃ (k : Nat), k + g = n ∧ i = .int .i64 k ∧ Hid (gs.take k = hs.take k) ∧ Hid (Sm w wr s1 s1 (.slice ax n capx) (.slice ay n capy)))
    case atStart => exact ⟨0, by omega, rfl, rfl, H0⟩
    case round =>
      obtain ⟨k, hk, rfl, HT, HS⟩ := hrel
      clear H0
      have p0 : wr.cell? ⟨w.heap.size, 0, none⟩ = some (.int .i64 s1) := blk_cell HS.out.b0 0
      have p1 : wr.cell? ⟨w.heap.size, 1, none⟩ = some (.slice ax n capx) := blk_cell HS.out.b0 1
      have q0 : wr.cell? ⟨w.heap.size + 1, 0, none⟩ = some (.int .i64 s1) := blk_cell HS.out.b1 0
      have q1 : wr.cell? ⟨w.heap.size + 1, 1, none⟩ = some (.slice ay n capy) := blk_cell HS.out.b1 1
      have hz := HS.out.below.size
      have hz1 := blk_lt HS.out.b1
      cases gk with
      | succ g =>
        have hlt : k < n := by omega
        obtain ⟨x, hx⟩ : ∃ x, gs[k]? = some x := ⟨_, List.getElem?_eq_getElem (by have := HN.out; omega)⟩
        obtain ⟨y, hy⟩ : ∃ y, hs[k]? = some y := ⟨_, List.getElem?_eq_getElem (by have := HM.out; omega)⟩
        obtain ⟨gx, ox, rfl, hgx, hcx⟩ := HX.out (fun e => by rw [e] at hx; cases hx)
        obtain ⟨gy, oy, rfl, hgy, hcy⟩ := HY.out (fun e => by rw [e] at hy; cases hy)
        obtain ⟨xv, hxc, x0, x1, x2, x3⟩ := hcx k x hx
        obtain ⟨yv, hyc, y0, y1, y2, y3⟩ := hcy k y hy
        have hc1 : ∀ i v, w.cell? ⟨gx, i, none⟩ = some v → wr.cell? ⟨gx, i, none⟩ = some v := fun i v h => (HS.out.below.cell (p := ⟨gx, i, none⟩) hgx).trans h
        have hc2 : ∀ i v, w.cell? ⟨gy, i, none⟩ = some v → wr.cell? ⟨gy, i, none⟩ = some v := fun i v h => (HS.out.below.cell (p := ⟨gy, i, none⟩) hgy).trans h
        have x0 := hc1 _ _ x0
        have x1 := hc1 _ _ x1
        have x2 := hc1 _ _ x2
        have x3 := hc1 _ _ x3
        have kx : gx < wr.heap.size := by omega
        have ky : gy < wr.heap.size := by omega
        have y0 := hc2 _ _ y0
        have y1 := hc2 _ _ y1
        have y2 := hc2 _ _ y2
        have y3 := hc2 _ _ y3
        obtain ⟨xa, xcap, rfl, hxr⟩ := hxc
        obtain ⟨ya, ycap, rfl, hyr⟩ := hyc
        have HXC := Lib.hid hxr
        have HYC := Lib.hid hyr
        have HXX := Lib.hid hx
        have HYY := Lib.hid hy
        clear hc1 hc2 hcx hcy hxr hyr hx hy
        have ap0 := cell_alloc p0 (by omega)
        have bp0 := cell_alloc2 p0 (by omega)
        have ap1 := cell_alloc p1 (by omega)
        have bp1 := cell_alloc2 p1 (by omega)
        have aq0 := cell_alloc q0 hz1
        have bq0 := cell_alloc2 q0 hz1
        have aq1 := cell_alloc q1 hz1
        have bq1 := cell_alloc2 q1 hz1
        have ax0 := cell_alloc x0 kx
        have bx0 := cell_alloc2 x0 kx
        have ax1 := cell_alloc x1 kx
        have bx1 := cell_alloc2 x1 kx
        have ax2 := cell_alloc x2 kx
        have bx2 := cell_alloc2 x2 kx
        have ax3 := cell_alloc x3 kx
        have bx3 := cell_alloc2 x3 kx
        have ay0 := cell_alloc y0 ky
        have by0 := cell_alloc2 y0 ky
        have ay1 := cell_alloc y1 ky
        have by1 := cell_alloc2 y1 ky
        have ay2 := cell_alloc y2 ky
        have by2 := cell_alloc2 y2 ky
        have ay3 := cell_alloc y3 ky
        have by3 := cell_alloc2 y3 ky
        go_wp2_with fail
        go_region
        all_goals
          clear p0 p1 q0 q1 x0 x1 x2 x3 y0 y1 y2 y3 ap0 ap1 aq0 aq1 ax0 ax1 ax2 ax3 ay0 ay1 ay2 ay3 bp0 bp1 bq0 bq1 bx0 bx1 bx2 bx3 by0 by1 by2 by3
          obtain ⟨r, l, lv, chs⟩ := x
          obtain ⟨r', l', lv', chs'⟩ := y
          dsimp only at HXC HYC ⊢
        · skip
          obtain ⟨w2, hw2⟩ : ∃ w2, w2 = ((wr.alloc (.cells #[.int .i64 r, .int .i64 l, .int .i64 lv, .slice xa chs.length xcap] 42)).alloc (.cells #[.int .i64 r', .int .i64 l', .int .i64 lv', .slice ya chs'.length ycap] 42)).drew := ⟨_, rfl⟩
          have hx2 : w2.heap[wr.heap.size]? = some (.cells #[.int .i64 r, .int .i64 l, .int .i64 lv, .slice xa chs.length xcap] 42) := by rw [hw2]; exact blk_drew (by repeat (first | exact heap_alloc_at _ _ _ (by (first | omega | (simp; done) | (simp; omega) | fail)) | (refine (heap_alloc_past _ _ _ ?_).trans ?_; · (first | omega | (simp; done) | (simp; omega) | fail)) | fail))
          have hy2 : w2.heap[wr.heap.size + 1]? = some (.cells #[.int .i64 r', .int .i64 l', .int .i64 lv', .slice ya chs'.length ycap] 42) := by rw [hw2]; exact blk_drew (by repeat (first | exact heap_alloc_at _ _ _ (by (first | omega | (simp; done) | (simp; omega) | fail)) | (refine (heap_alloc_past _ _ _ ?_).trans ?_; · (first | omega | (simp; done) | (simp; omega) | fail)) | fail))
          have HS2 : Hid (Sm w w2 s1 s1 (.slice (some ⟨gx, ox, none⟩) n capx) (.slice (some ⟨gy, oy, none⟩) n capy)) := by
            show Sm _ _ _ _ _ _
            rw [hw2]
            exact ⟨blk_drew (by repeat (first | (refine (heap_setCell_past _ _ _ _ ?_).trans ?_; · (first | omega | (simp; done) | (simp; omega) | fail)) | (refine (heap_alloc_past _ _ _ ?_).trans ?_; · (first | omega | (simp; done) | (simp; omega) | fail)) | exact HS.out.b0 | fail)), blk_drew (by repeat (first | (refine (heap_setCell_past _ _ _ _ ?_).trans ?_; · (first | omega | (simp; done) | (simp; omega) | fail)) | (refine (heap_alloc_past _ _ _ ?_).trans ?_; · (first | omega | (simp; done) | (simp; omega) | fail)) | exact HS.out.b1 | fail)), by exact (by repeat (first | (refine Below.setCell ?_ ?_ _; rotate_left; · (first | omega | (simp; done) | (simp; omega) | fail)) | (refine Below.alloc ?_ ?_ _; rotate_left; · (first | omega | (simp; done) | (simp; omega) | fail)) | refine Below.drew ?_ | exact HS.out.below | fail))⟩
          rw [← hw2]
          clear hw2 HS
          have e0 := blk_cell hx2 0; have e1 := blk_cell hx2 1; have e2 := blk_cell hx2 2; have e3 := blk_cell hx2 3
          have f0 := blk_cell hy2 0; have f1 := blk_cell hy2 1; have f2 := blk_cell hy2 2; have f3 := blk_cell hy2 3
          have HP2 := Lib.hid hx2
          have HQ2 := Lib.hid hy2
          clear hx2 hy2
          by_cases c1 : r = r'
          · subst c1
            by_cases c2 : l = l'
            · subst c2
              by_cases c3 : lv = lv'
              · subst c3
                obtain ⟨M, hM⟩ : ∃ M, M = chs.length := ⟨_, rfl⟩
                by_cases c4 : chs.length = chs'.length
                · rw [← c4, ← hM] at f3
                  rw [← hM] at e3
                  rw [← c4, ← hM]
                  have HMM := Lib.hid hM
                  have HMN := Lib.hid (hM.trans c4)
                  clear hM c4
                  have hMl : M < 1000000 := by
                    have h9 : chs.length < 1000000 := HL.out _ (List.mem_of_getElem? HXX.out)
                    have := HMM.out
                    omega
                  go_wp2_with fail
                  go_loopg [8] M (fun g2 j wy => ∃ (i q : Nat), i + g2 = M ∧ j = .int .i64 i ∧ wy = w2.drewN q ∧ Hid (chs.take i = chs'.take i))
                  case atStart => exact ⟨0, 0, by omega, rfl, rfl, rfl⟩
                  case round =>
                    obtain ⟨i, qi, hi, rfl, rfl, HTI⟩ := hrel
                    cases gk with
                    | succ g2 =>
                      have hil : i < M := by omega
                      obtain ⟨cx, hcx⟩ : ∃ cx, chs[i]? = some cx := ⟨_, List.getElem?_eq_getElem (by have := HMM.out; omega)⟩
                      obtain ⟨cy, hcy⟩ : ∃ cy, chs'[i]? = some cy := ⟨_, List.getElem?_eq_getElem (by have := HMN.out; omega)⟩
                      obtain ⟨mx, nx, rfl, hmx, hfx⟩ := HXC.out (fun e => by rw [e] at hcx; cases hcx)
                      obtain ⟨my, ny, rfl, hmy, hfy⟩ := HYC.out (fun e => by rw [e] at hcy; cases hcy)
                      obtain ⟨x0, x1, x2⟩ := hfx i cx hcx
                      obtain ⟨y0, y1, y2⟩ := hfy i cy hcy
                      have hc1 : ∀ i v, w.cell? ⟨mx, i, none⟩ = some v → w2.cell? ⟨mx, i, none⟩ = some v := fun i v h => (HS2.out.below.cell (p := ⟨mx, i, none⟩) hmx).trans h
                      have hc2 : ∀ i v, w.cell? ⟨my, i, none⟩ = some v → w2.cell? ⟨my, i, none⟩ = some v := fun i v h => (HS2.out.below.cell (p := ⟨my, i, none⟩) hmy).trans h
                      have x0 := hc1 _ _ x0
                      have x1 := hc1 _ _ x1
                      have x2 := hc1 _ _ x2
                      have y0 := hc2 _ _ y0
                      have y1 := hc2 _ _ y1
                      have y2 := hc2 _ _ y2
                      have HCX := Lib.hid hcx
                      have HCY := Lib.hid hcy
                      clear hc1 hc2 hfx hfy hcx hcy
                      obtain ⟨ck, cp, cm⟩ := cx
                      obtain ⟨dk, dp, dm⟩ := cy
                      dsimp only at x0 x1 x2 y0 y1 y2
                      go_wp2_with fail
                      by_cases d1 : ck = dk
                      · subst d1
                        by_cases d2 : cp = dp
                        · subst d2
                          by_cases d3 : cm = dm
                          · subst d3
                            go_quiet (fail)
                            go_wp2_with fail
                            go_roundg g2
                            case measure => omega
                            case rel => exact ⟨i + 1, qi + nq, by omega, by go_num, rfl, take_step HCX.out HCY.out HTI.out rfl⟩
                          · skip
                            have HNC : Hid (¬ ((⟨s1, gs⟩ : Bk) = ⟨s1, hs⟩)) := same_ne HXX.out HYY.out (fun e => by
                              injection e with _ _ _ e
                              have h1 := HCX.out
                              rw [e, HCY.out] at h1
                              cases h1
                              contradiction)
                            clear HXX HYY HCX HCY
                            go_quiet (fail)
                            go_wp2_with fail
                            go_ret
                            exact ⟨SameR.no HNC.out rfl, bdrewN (bdrewN HS2.out.below _) _⟩
                        · skip
                          have HNC : Hid (¬ ((⟨s1, gs⟩ : Bk) = ⟨s1, hs⟩)) := same_ne HXX.out HYY.out (fun e => by
                            injection e with _ _ _ e
                            have h1 := HCX.out
                            rw [e, HCY.out] at h1
                            cases h1
                            contradiction)
                          clear HXX HYY HCX HCY
                          go_quiet (fail)
                          go_wp2_with fail
                          go_ret
                          exact ⟨SameR.no HNC.out rfl, bdrewN (bdrewN HS2.out.below _) _⟩
                      · skip
                        have HNC : Hid (¬ ((⟨s1, gs⟩ : Bk) = ⟨s1, hs⟩)) := same_ne HXX.out HYY.out (fun e => by
                          injection e with _ _ _ e
                          have h1 := HCX.out
                          rw [e, HCY.out] at h1
                          cases h1
                          contradiction)
                        clear HXX HYY HCX HCY
                        go_quiet (fail)
                        go_wp2_with fail
                        go_ret
                        exact ⟨SameR.no HNC.out rfl, bdrewN (bdrewN HS2.out.below _) _⟩
                    | zero =>
                      have hi0 : i = M := by omega
                      have HCC : Hid (chs = chs') := by
                        have h1 := HTI.out
                        rw [hi0, HMM.out, List.take_length, ← HMM.out, HMN.out, List.take_length] at h1
                        exact h1
                      subst hi0
                      clear HTI
                      go_wp2_with fail
                      go_roundg g
                      case measure => omega
                      case rel => exact ⟨k + 1, by omega, by go_num, take_step HXX.out HYY.out HT.out (by rw [HCC.out]), HS2.out.drewN _⟩
                · have c5 : ¬ ((chs.length : Int) = (chs'.length : Int)) := by omega
                  clear hM
                  have HNE : Hid (¬ ((⟨s1, gs⟩ : Bk) = ⟨s1, hs⟩)) := same_ne HXX.out HYY.out (fun e => by injection e with e1 e2 e3 e4; first | contradiction | exact c5 (by rw [e4]))
                  clear HXX HYY
                  go_wp2_with fail
                  go_ret
                  exact ⟨SameR.no HNE.out rfl, HS2.out.below⟩
              · skip
                have HNE : Hid (¬ ((⟨s1, gs⟩ : Bk) = ⟨s1, hs⟩)) := same_ne HXX.out HYY.out (fun e => by injection e with e1 e2 e3 e4; first | contradiction | exact c5 (by rw [e4]))
                clear HXX HYY
                go_wp2_with fail
                go_ret
                exact ⟨SameR.no HNE.out rfl, HS2.out.below⟩
            · skip
              have HNE : Hid (¬ ((⟨s1, gs⟩ : Bk) = ⟨s1, hs⟩)) := same_ne HXX.out HYY.out (fun e => by injection e with e1 e2 e3 e4; first | contradiction | exact c5 (by rw [e4]))
              clear HXX HYY
              go_wp2_with fail
              go_ret
              exact ⟨SameR.no HNE.out rfl, HS2.out.below⟩
          · skip
            have HNE : Hid (¬ ((⟨s1, gs⟩ : Bk) = ⟨s1, hs⟩)) := same_ne HXX.out HYY.out (fun e => by injection e with e1 e2 e3 e4; first | contradiction | exact c5 (by rw [e4]))
            clear HXX HYY
            go_wp2_with fail
            go_ret
            exact ⟨SameR.no HNE.out rfl, HS2.out.below⟩
        · skip
          obtain ⟨w2, hw2⟩ : ∃ w2, w2 = ((wr.alloc (.cells #[.int .i64 r', .int .i64 l', .int .i64 lv', .slice ya chs'.length ycap] 42)).alloc (.cells #[.int .i64 r, .int .i64 l, .int .i64 lv, .slice xa chs.length xcap] 42)).drew := ⟨_, rfl⟩
          have hx2 : w2.heap[wr.heap.size + 1]? = some (.cells #[.int .i64 r, .int .i64 l, .int .i64 lv, .slice xa chs.length xcap] 42) := by rw [hw2]; exact blk_drew (by repeat (first | exact heap_alloc_at _ _ _ (by (first | omega | (simp; done) | (simp; omega) | fail)) | (refine (heap_alloc_past _ _ _ ?_).trans ?_; · (first | omega | (simp; done) | (simp; omega) | fail)) | fail))
          have hy2 : w2.heap[wr.heap.size]? = some (.cells #[.int .i64 r', .int .i64 l', .int .i64 lv', .slice ya chs'.length ycap] 42) := by rw [hw2]; exact blk_drew (by repeat (first | exact heap_alloc_at _ _ _ (by (first | omega | (simp; done) | (simp; omega) | fail)) | (refine (heap_alloc_past _ _ _ ?_).trans ?_; · (first | omega | (simp; done) | (simp; omega) | fail)) | fail))
          have HS2 : Hid (Sm w w2 s1 s1 (.slice (some ⟨gx, ox, none⟩) n capx) (.slice (some ⟨gy, oy, none⟩) n capy)) := by
            show Sm _ _ _ _ _ _
            rw [hw2]
            exact ⟨blk_drew (by repeat (first | (refine (heap_setCell_past _ _ _ _ ?_).trans ?_; · (first | omega | (simp; done) | (simp; omega) | fail)) | (refine (heap_alloc_past _ _ _ ?_).trans ?_; · (first | omega | (simp; done) | (simp; omega) | fail)) | exact HS.out.b0 | fail)), blk_drew (by repeat (first | (refine (heap_setCell_past _ _ _ _ ?_).trans ?_; · (first | omega | (simp; done) | (simp; omega) | fail)) | (refine (heap_alloc_past _ _ _ ?_).trans ?_; · (first | omega | (simp; done) | (simp; omega) | fail)) | exact HS.out.b1 | fail)), by exact (by repeat (first | (refine Below.setCell ?_ ?_ _; rotate_left; · (first | omega | (simp; done) | (simp; omega) | fail)) | (refine Below.alloc ?_ ?_ _; rotate_left; · (first | omega | (simp; done) | (simp; omega) | fail)) | refine Below.drew ?_ | exact HS.out.below | fail))⟩
          rw [← hw2]
          clear hw2 HS
          have e0 := blk_cell hx2 0; have e1 := blk_cell hx2 1; have e2 := blk_cell hx2 2; have e3 := blk_cell hx2 3
          have f0 := blk_cell hy2 0; have f1 := blk_cell hy2 1; have f2 := blk_cell hy2 2; have f3 := blk_cell hy2 3
          have HP2 := Lib.hid hx2
          have HQ2 := Lib.hid hy2
          clear hx2 hy2
          by_cases c1 : r = r'
          · subst c1
            by_cases c2 : l = l'
            · subst c2
              by_cases c3 : lv = lv'
              · subst c3
                obtain ⟨M, hM⟩ : ∃ M, M = chs.length := ⟨_, rfl⟩
                by_cases c4 : chs.length = chs'.length
                · rw [← c4, ← hM] at f3
                  rw [← hM] at e3
                  rw [← c4, ← hM]
                  have HMM := Lib.hid hM
                  have HMN := Lib.hid (hM.trans c4)
                  clear hM c4
                  have hMl : M < 1000000 := by
                    have h9 : chs.length < 1000000 := HL.out _ (List.mem_of_getElem? HXX.out)
                    have := HMM.out
                    omega
                  go_wp2_with fail
                  go_loopg [8] M (fun g2 j wy => ∃ (i q : Nat), i + g2 = M ∧ j = .int .i64 i ∧ wy = w2.drewN q ∧ Hid (chs.take i = chs'.take i))
                  case atStart => exact ⟨0, 0, by omega, rfl, rfl, rfl⟩
                  case round =>
                    obtain ⟨i, qi, hi, rfl, rfl, HTI⟩ := hrel
                    cases gk with
                    | succ g2 =>
                      have hil : i < M := by omega
                      obtain ⟨cx, hcx⟩ : ∃ cx, chs[i]? = some cx := ⟨_, List.getElem?_eq_getElem (by have := HMM.out; omega)⟩
                      obtain ⟨cy, hcy⟩ : ∃ cy, chs'[i]? = some cy := ⟨_, List.getElem?_eq_getElem (by have := HMN.out; omega)⟩
                      obtain ⟨mx, nx, rfl, hmx, hfx⟩ := HXC.out (fun e => by rw [e] at hcx; cases hcx)
                      obtain ⟨my, ny, rfl, hmy, hfy⟩ := HYC.out (fun e => by rw [e] at hcy; cases hcy)
                      obtain ⟨x0, x1, x2⟩ := hfx i cx hcx
                      obtain ⟨y0, y1, y2⟩ := hfy i cy hcy
                      have hc1 : ∀ i v, w.cell? ⟨mx, i, none⟩ = some v → w2.cell? ⟨mx, i, none⟩ = some v := fun i v h => (HS2.out.below.cell (p := ⟨mx, i, none⟩) hmx).trans h
                      have hc2 : ∀ i v, w.cell? ⟨my, i, none⟩ = some v → w2.cell? ⟨my, i, none⟩ = some v := fun i v h => (HS2.out.below.cell (p := ⟨my, i, none⟩) hmy).trans h
                      have x0 := hc1 _ _ x0
                      have x1 := hc1 _ _ x1
                      have x2 := hc1 _ _ x2
                      have y0 := hc2 _ _ y0
                      have y1 := hc2 _ _ y1
                      have y2 := hc2 _ _ y2
                      have HCX := Lib.hid hcx
                      have HCY := Lib.hid hcy
                      clear hc1 hc2 hfx hfy hcx hcy
                      obtain ⟨ck, cp, cm⟩ := cx
                      obtain ⟨dk, dp, dm⟩ := cy
                      dsimp only at x0 x1 x2 y0 y1 y2
                      go_wp2_with fail
                      by_cases d1 : ck = dk
                      · subst d1
                        by_cases d2 : cp = dp
                        · subst d2
                          by_cases d3 : cm = dm
                          · subst d3
                            go_quiet (fail)
                            go_wp2_with fail
                            go_roundg g2
                            case measure => omega
                            case rel => exact ⟨i + 1, qi + nq, by omega, by go_num, rfl, take_step HCX.out HCY.out HTI.out rfl⟩
                          · skip
                            have HNC : Hid (¬ ((⟨s1, gs⟩ : Bk) = ⟨s1, hs⟩)) := same_ne HXX.out HYY.out (fun e => by
                              injection e with _ _ _ e
                              have h1 := HCX.out
                              rw [e, HCY.out] at h1
                              cases h1
                              contradiction)
                            clear HXX HYY HCX HCY
                            go_quiet (fail)
                            go_wp2_with fail
                            go_ret
                            exact ⟨SameR.no HNC.out rfl, bdrewN (bdrewN HS2.out.below _) _⟩
                        · skip
                          have HNC : Hid (¬ ((⟨s1, gs⟩ : Bk) = ⟨s1, hs⟩)) := same_ne HXX.out HYY.out (fun e => by
                            injection e with _ _ _ e
                            have h1 := HCX.out
                            rw [e, HCY.out] at h1
                            cases h1
                            contradiction)
                          clear HXX HYY HCX HCY
                          go_quiet (fail)
                          go_wp2_with fail
                          go_ret
                          exact ⟨SameR.no HNC.out rfl, bdrewN (bdrewN HS2.out.below _) _⟩
                      · skip
                        have HNC : Hid (¬ ((⟨s1, gs⟩ : Bk) = ⟨s1, hs⟩)) := same_ne HXX.out HYY.out (fun e => by
                          injection e with _ _ _ e
                          have h1 := HCX.out
                          rw [e, HCY.out] at h1
                          cases h1
                          contradiction)
                        clear HXX HYY HCX HCY
                        go_quiet (fail)
                        go_wp2_with fail
                        go_ret
                        exact ⟨SameR.no HNC.out rfl, bdrewN (bdrewN HS2.out.below _) _⟩
                    | zero =>
                      have hi0 : i = M := by omega
                      have HCC : Hid (chs = chs') := by
                        have h1 := HTI.out
                        rw [hi0, HMM.out, List.take_length, ← HMM.out, HMN.out, List.take_length] at h1
                        exact h1
                      subst hi0
                      clear HTI
                      go_wp2_with fail
                      go_roundg g
                      case measure => omega
                      case rel => exact ⟨k + 1, by omega, by go_num, take_step HXX.out HYY.out HT.out (by rw [HCC.out]), HS2.out.drewN _⟩
                · have c5 : ¬ ((chs.length : Int) = (chs'.length : Int)) := by omega
                  clear hM
                  have HNE : Hid (¬ ((⟨s1, gs⟩ : Bk) = ⟨s1, hs⟩)) := same_ne HXX.out HYY.out (fun e => by injection e with e1 e2 e3 e4; first | contradiction | exact c5 (by rw [e4]))
                  clear HXX HYY
                  go_wp2_with fail
                  go_ret
                  exact ⟨SameR.no HNE.out rfl, HS2.out.below⟩
              · skip
                have HNE : Hid (¬ ((⟨s1, gs⟩ : Bk) = ⟨s1, hs⟩)) := same_ne HXX.out HYY.out (fun e => by injection e with e1 e2 e3 e4; first | contradiction | exact c5 (by rw [e4]))
                clear HXX HYY
                go_wp2_with fail
                go_ret
                exact ⟨SameR.no HNE.out rfl, HS2.out.below⟩
            · skip
              have HNE : Hid (¬ ((⟨s1, gs⟩ : Bk) = ⟨s1, hs⟩)) := same_ne HXX.out HYY.out (fun e => by injection e with e1 e2 e3 e4; first | contradiction | exact c5 (by rw [e4]))
              clear HXX HYY
              go_wp2_with fail
              go_ret
              exact ⟨SameR.no HNE.out rfl, HS2.out.below⟩
          · skip
            have HNE : Hid (¬ ((⟨s1, gs⟩ : Bk) = ⟨s1, hs⟩)) := same_ne HXX.out HYY.out (fun e => by injection e with e1 e2 e3 e4; first | contradiction | exact c5 (by rw [e4]))
            clear HXX HYY
            go_wp2_with fail
            go_ret
            exact ⟨SameR.no HNE.out rfl, HS2.out.below⟩
      | zero =>
        have hk0 : k = n := by omega
        have HGE : Hid (gs = hs) := by
          have h1 := HT.out
          rw [hk0, HN.out, List.take_length, ← HN.out, HM.out, List.take_length] at h1
          exact h1
        subst hk0
        clear HT
        go_wp2_with fail
        go_ret
        exact ⟨SameR.yes (by rw [HGE.out]) rfl, HS.out.below⟩
  · have HNE : Hid (¬ ((⟨s1, gs⟩ : Bk) = ⟨s2, hs⟩)) := fun e => by
      injection e with e1 e2
      exact hne ⟨e1, by rw [HN.out, HM.out, e2]⟩
    by_cases h1 : s1 = s2
    · have h2 : ¬ ((n : Int) = (m : Int)) := fun e => hne ⟨h1, by omega⟩
      clear hne
      subst h1
      go_enter Tryz.func11, Tryz.ntmps11
      go_wp2_with fail
      go_ret
      exact ⟨SameR.no HNE.out rfl, (by repeat (first | exact Below.refl _ _ | assumption | (refine Below.alloc ?_ ?_ _; rotate_left; · (first | omega | (simp; done) | (simp; omega) | fail)) | (refine Below.setCell ?_ ?_ _; rotate_left; · (first | omega | (simp; done) | (simp; omega) | fail)) | refine Below.drew ?_ | fail))⟩
    · clear hne
      go_enter Tryz.func11, Tryz.ntmps11
      go_wp2_with fail
      go_ret
      exact ⟨SameR.no HNE.out rfl, (by repeat (first | exact Below.refl _ _ | assumption | (refine Below.alloc ?_ ?_ _; rotate_left; · (first | omega | (simp; done) | (simp; omega) | fail)) | (refine Below.setCell ?_ ?_ _; rotate_left; · (first | omega | (simp; done) | (simp; omega) | fail)) | refine Below.drew ?_ | fail))⟩

end Go.Proofs.YtimdmgkegdlafaaGreatDoor
