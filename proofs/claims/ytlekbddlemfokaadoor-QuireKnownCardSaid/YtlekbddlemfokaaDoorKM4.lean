/- The parts Rc of the proof, joined. It holds without conditions of its own. -/
import Derived.Test.YtlekbddlemfokaaDoorKM3
/- Contracts of the reader: a signature, a change. -/
namespace Go.Proofs.YtlekbddlemfokaaDoor
set_option linter.unusedSimpArgs false
set_option linter.unusedVariables false
open Go Go.RowKit Go.Sort Go.BigFrame Go.Lib

theorem OnlyIn.setNew {X : Nat → Prop} {w W : World} (h : OnlyIn X w W) (p : Addr) (v : Value) (hp : w.heap.size ≤ p.block) : OnlyIn X w (W.setCell p v) := h.fresh (OnlyIn.setCell W p v hp)
theorem OnlyIn.alloc' {X : Nat → Prop} {w W : World} (h : OnlyIn X w W) (o : Obj) : OnlyIn X w (W.alloc o) := h.trans (OnlyIn.alloc X W o)
theorem OnlyIn.drew' {X : Nat → Prop} {w W : World} (h : OnlyIn X w W) : OnlyIn X w W.drew := h.trans (OnlyIn.drew X W)
def sigV (a : Int × Int) : Value := .agg #[.int .i64 a.1, .int .i64 a.2]

set_option maxHeartbeats 1000000 in
theorem sig_any (R : Nat) (s : Bs) (w : World) (hr : Rd w R s) :
    Calls Tryd.prog 53 #[.pointer (some ⟨R, 0, none⟩)] w (ReadPost R sigV (sigF s) w) := by
  have HR := Lib.hid hr
  have hR := blk_lt hr
  clear hr
  cases hs2 : skipF [50] s with
  | some u =>
    have hs3 : True := trivial
    go_enter Tryd.func53, Tryd.ntmps53
    go_wp2_with fail
    refine wp_loop_rounds 3 ?_
    rw [rounds_succ]
    go_wp2_with fail
    refine (Itoa_any 2 (by omega) (by omega) _).mono ?_
    rintro e w1 ⟨rfl, rfl⟩
    go_wp2_with fail
    refine (skip_yes R s (dec 2) u _ (by exact (by repeat (first | (refine (heap_setCell_past _ _ _ _ ?_).trans ?_; · (first | omega | (simp; done) | (simp; omega) | fail)) | (refine (heap_alloc_past _ _ _ ?_).trans ?_; · (first | omega | (simp; done) | (simp; omega) | fail)) | exact HR.out | fail))) hs2).mono ?_
    rintro e w1 ⟨rfl, hw1⟩
    have HB0 := Lib.hid (show w1.heap[w.heap.size]? = some (.cells #[.int .i64 0, .int .i64 0] 39) from hw1.block (by exact (by repeat (first | exact heap_alloc_at _ _ _ (by (first | omega | (simp; done) | (simp; omega) | fail)) | (refine (heap_alloc_past _ _ _ ?_).trans ?_; · (first | omega | (simp; done) | (simp; omega) | fail)) | fail))) (by omega))
    have b1 : w1.heap[w.heap.size + 1]? = some (.cells #[.int .i64 1, .int .i64 0] 39) := hw1.block (by exact (by repeat (first | exact heap_alloc_at _ _ _ (by (first | omega | (simp; done) | (simp; omega) | fail)) | (refine (heap_alloc_past _ _ _ ?_).trans ?_; · (first | omega | (simp; done) | (simp; omega) | fail)) | fail))) (by omega)
    have HR1' := Lib.hid hw1.rd
    have HO1' := Lib.hid (show OnlyIn (fun k => k = R) w w1 from OnlyIn.trans (by exact (by repeat (first | exact OnlyIn.refl _ _ | (refine OnlyIn.setNew ?_ _ _ ?_; rotate_left; · (first | omega | (simp; done) | (simp; omega) | fail)) | refine OnlyIn.alloc' ?_ _ | refine OnlyIn.drew' ?_ | fail))) hw1.only)
    have c0 := blk_cell b1 0; have c1 := blk_cell b1 1
    have f0 := blk_free b1 0; have f1 := blk_free b1 1
    have HB1' := Lib.hid b1
    clear b1 hw1
    go_wp2_with fail
    have HB0 := Lib.hid (show (w1.setCell ⟨w.heap.size + 1, 0, none⟩ (.int .i64 2)).heap[w.heap.size]? = some (.cells #[.int .i64 0, .int .i64 0] 39) from (by repeat (first | (refine (heap_setCell_past _ _ _ _ ?_).trans ?_; · (first | omega | (simp; done) | (simp; omega) | fail)) | (refine (heap_alloc_past _ _ _ ?_).trans ?_; · (first | omega | (simp; done) | (simp; omega) | fail)) | exact HB0.out | fail)))
    have HB1 := Lib.hid (show (w1.setCell ⟨w.heap.size + 1, 0, none⟩ (.int .i64 2)).heap[w.heap.size + 1]? = some (.cells #[.int .i64 2, .int .i64 0] 39) from blk_set HB1'.out 0 _)
    have HR1 := Lib.hid (show Rd (w1.setCell ⟨w.heap.size + 1, 0, none⟩ (.int .i64 2)) R u from (by repeat (first | (refine (heap_setCell_past _ _ _ _ ?_).trans ?_; · (first | omega | (simp; done) | (simp; omega) | fail)) | (refine (heap_alloc_past _ _ _ ?_).trans ?_; · (first | omega | (simp; done) | (simp; omega) | fail)) | exact HR1'.out | fail)))
    have HO1 := Lib.hid (show OnlyIn (fun k => k = R) w (w1.setCell ⟨w.heap.size + 1, 0, none⟩ (.int .i64 2)) from (by repeat (first | exact HO1'.out | (refine OnlyIn.setNew ?_ _ _ ?_; rotate_left; · (first | omega | (simp; done) | (simp; omega) | fail)) | refine OnlyIn.alloc' ?_ _ | refine OnlyIn.drew' ?_ | fail)))
    clear c0 c1 f0 f1 HB1' HR1' HO1'
    refine (letter_any R u _ HR1.out).mono ?_
    intro e w2 hp
    cases hl : letterF u with
    | none =>
      rw [hl] at hp
      obtain ⟨rfl, t', hw2⟩ := hp
      have hF : Hid (sigF s = none) := by show _ = _; simp [sigF, roundF, hl, hs2, hs3]
      have HO := Lib.hid (HO1.out.trans hw2.only)
      have HR2 := Lib.hid hw2.rd
      clear hw2
      go_wp2_with fail
      refine ⟨rfl, ?_⟩
      show ReadPost R _ (sigF s) _ _ _
      rw [hF.out]
      exact ⟨rfl, t', HR2.out, HO.out⟩
    | some p =>
      obtain ⟨n, t⟩ := p
      rw [hl] at hp
      obtain ⟨rfl, hw2⟩ := hp
      have hF : Hid (sigF s = some ((2, n), t)) := by show _ = _; simp [sigF, roundF, hl, hs2, hs3]
      have HO := Lib.hid (HO1.out.trans hw2.only)
      have HR2 := Lib.hid hw2.rd
      have H0 := Lib.hid (hw2.block HB0.out (by omega))
      have H1 := Lib.hid (hw2.block HB1.out (by omega))
      have z0 := blk_cell H0.out 0; have z1 := blk_cell H0.out 1
      have y0 := blk_free H0.out 0; have y1 := blk_free H0.out 1
      have c0 := blk_cell H1.out 0; have c1 := blk_cell H1.out 1
      have f0 := blk_free H1.out 0; have f1 := blk_free H1.out 1
      clear hw2 hl hs2 hs3
      go_wp2_with fail
      refine bodyPost_ret (v := .agg #[.int .i64 2, .int .i64 n]) (by simp [results, Tryd.results53, go_sem, z0, z1]) rfl ?_
      show ReadPost R _ (sigF s) _ _ _
      rw [hF.out]
      exact ⟨rfl, (by exact (by repeat (first | (refine (heap_setCell_past _ _ _ _ ?_).trans ?_; · (first | omega | (simp; done) | (simp; omega) | fail)) | (refine (heap_alloc_past _ _ _ ?_).trans ?_; · (first | omega | (simp; done) | (simp; omega) | fail)) | exact HR2.out | fail))), (by exact (by repeat (first | exact HO.out | (refine OnlyIn.setNew ?_ _ _ ?_; rotate_left; · (first | omega | (simp; done) | (simp; omega) | fail)) | refine OnlyIn.alloc' ?_ _ | refine OnlyIn.drew' ?_ | fail)))⟩
  | none =>
    cases hs3 : skipF [51] s with
    | some u =>
      go_enter Tryd.func53, Tryd.ntmps53
      go_wp2_with fail
      refine wp_loop_rounds 3 ?_
      rw [rounds_succ]
      go_wp2_with fail
      refine (Itoa_any 2 (by omega) (by omega) _).mono ?_
      rintro e w1 ⟨rfl, rfl⟩
      go_wp2_with fail
      refine (skip_no R s (dec 2) _ (by exact (by repeat (first | (refine (heap_setCell_past _ _ _ _ ?_).trans ?_; · (first | omega | (simp; done) | (simp; omega) | fail)) | (refine (heap_alloc_past _ _ _ ?_).trans ?_; · (first | omega | (simp; done) | (simp; omega) | fail)) | exact HR.out | fail))) hs2).mono ?_
      rintro e w1 ⟨rfl, hw1⟩
      have HB0 := Lib.hid (show w1.heap[w.heap.size]? = some (.cells #[.int .i64 0, .int .i64 0] 39) from hw1.block (by exact (by repeat (first | exact heap_alloc_at _ _ _ (by (first | omega | (simp; done) | (simp; omega) | fail)) | (refine (heap_alloc_past _ _ _ ?_).trans ?_; · (first | omega | (simp; done) | (simp; omega) | fail)) | fail))) (by omega))
      have b1 : w1.heap[w.heap.size + 1]? = some (.cells #[.int .i64 1, .int .i64 0] 39) := hw1.block (by exact (by repeat (first | exact heap_alloc_at _ _ _ (by (first | omega | (simp; done) | (simp; omega) | fail)) | (refine (heap_alloc_past _ _ _ ?_).trans ?_; · (first | omega | (simp; done) | (simp; omega) | fail)) | fail))) (by omega)
      have HR1' := Lib.hid hw1.rd
      have HO1' := Lib.hid (show OnlyIn (fun k => k = R) w w1 from OnlyIn.trans (by exact (by repeat (first | exact OnlyIn.refl _ _ | (refine OnlyIn.setNew ?_ _ _ ?_; rotate_left; · (first | omega | (simp; done) | (simp; omega) | fail)) | refine OnlyIn.alloc' ?_ _ | refine OnlyIn.drew' ?_ | fail))) hw1.only)
      have c0 := blk_cell b1 0; have c1 := blk_cell b1 1
      have f0 := blk_free b1 0; have f1 := blk_free b1 1
      have HB1' := Lib.hid b1
      clear b1 hw1
      go_wp2_with fail
      rw [rounds_succ]
      go_wp2_with fail
      refine (Itoa_any 3 (by omega) (by omega) _).mono ?_
      rintro e w1' ⟨rfl, rfl⟩
      go_wp2_with fail
      refine (skip_yes R s (dec 3) u _ HR1'.out hs3).mono ?_
      rintro e w3 ⟨rfl, hw3⟩
      have HB0 := Lib.hid (hw3.block HB0.out (by omega))
      have HB1' := Lib.hid (hw3.block HB1'.out (by omega))
      have HO1' := Lib.hid (HO1'.out.trans hw3.only)
      have HR1' := Lib.hid hw3.rd
      clear c0 c1 f0 f1 hw3
      have c0 := blk_cell HB1'.out 0; have c1 := blk_cell HB1'.out 1
      have f0 := blk_free HB1'.out 0; have f1 := blk_free HB1'.out 1
      go_wp2_with fail
      have HB0 := Lib.hid (show (w3.setCell ⟨w.heap.size + 1, 0, none⟩ (.int .i64 3)).heap[w.heap.size]? = some (.cells #[.int .i64 0, .int .i64 0] 39) from (by repeat (first | (refine (heap_setCell_past _ _ _ _ ?_).trans ?_; · (first | omega | (simp; done) | (simp; omega) | fail)) | (refine (heap_alloc_past _ _ _ ?_).trans ?_; · (first | omega | (simp; done) | (simp; omega) | fail)) | exact HB0.out | fail)))
      have HB1 := Lib.hid (show (w3.setCell ⟨w.heap.size + 1, 0, none⟩ (.int .i64 3)).heap[w.heap.size + 1]? = some (.cells #[.int .i64 3, .int .i64 0] 39) from blk_set HB1'.out 0 _)
      have HR1 := Lib.hid (show Rd (w3.setCell ⟨w.heap.size + 1, 0, none⟩ (.int .i64 3)) R u from (by repeat (first | (refine (heap_setCell_past _ _ _ _ ?_).trans ?_; · (first | omega | (simp; done) | (simp; omega) | fail)) | (refine (heap_alloc_past _ _ _ ?_).trans ?_; · (first | omega | (simp; done) | (simp; omega) | fail)) | exact HR1'.out | fail)))
      have HO1 := Lib.hid (show OnlyIn (fun k => k = R) w (w3.setCell ⟨w.heap.size + 1, 0, none⟩ (.int .i64 3)) from (by repeat (first | exact HO1'.out | (refine OnlyIn.setNew ?_ _ _ ?_; rotate_left; · (first | omega | (simp; done) | (simp; omega) | fail)) | refine OnlyIn.alloc' ?_ _ | refine OnlyIn.drew' ?_ | fail)))
      clear c0 c1 f0 f1 HB1' HR1' HO1'
      refine (letter_any R u _ HR1.out).mono ?_
      intro e w2 hp
      cases hl : letterF u with
      | none =>
        rw [hl] at hp
        obtain ⟨rfl, t', hw2⟩ := hp
        have hF : Hid (sigF s = none) := by show _ = _; simp [sigF, roundF, hl, hs2, hs3]
        have HO := Lib.hid (HO1.out.trans hw2.only)
        have HR2 := Lib.hid hw2.rd
        clear hw2
        go_wp2_with fail
        refine ⟨rfl, ?_⟩
        show ReadPost R _ (sigF s) _ _ _
        rw [hF.out]
        exact ⟨rfl, t', HR2.out, HO.out⟩
      | some p =>
        obtain ⟨n, t⟩ := p
        rw [hl] at hp
        obtain ⟨rfl, hw2⟩ := hp
        have hF : Hid (sigF s = some ((3, n), t)) := by show _ = _; simp [sigF, roundF, hl, hs2, hs3]
        have HO := Lib.hid (HO1.out.trans hw2.only)
        have HR2 := Lib.hid hw2.rd
        have H0 := Lib.hid (hw2.block HB0.out (by omega))
        have H1 := Lib.hid (hw2.block HB1.out (by omega))
        have z0 := blk_cell H0.out 0; have z1 := blk_cell H0.out 1
        have y0 := blk_free H0.out 0; have y1 := blk_free H0.out 1
        have c0 := blk_cell H1.out 0; have c1 := blk_cell H1.out 1
        have f0 := blk_free H1.out 0; have f1 := blk_free H1.out 1
        clear hw2 hl hs2 hs3
        go_wp2_with fail
        refine bodyPost_ret (v := .agg #[.int .i64 3, .int .i64 n]) (by simp [results, Tryd.results53, go_sem, z0, z1]) rfl ?_
        show ReadPost R _ (sigF s) _ _ _
        rw [hF.out]
        exact ⟨rfl, (by exact (by repeat (first | (refine (heap_setCell_past _ _ _ _ ?_).trans ?_; · (first | omega | (simp; done) | (simp; omega) | fail)) | (refine (heap_alloc_past _ _ _ ?_).trans ?_; · (first | omega | (simp; done) | (simp; omega) | fail)) | exact HR2.out | fail))), (by exact (by repeat (first | exact HO.out | (refine OnlyIn.setNew ?_ _ _ ?_; rotate_left; · (first | omega | (simp; done) | (simp; omega) | fail)) | refine OnlyIn.alloc' ?_ _ | refine OnlyIn.drew' ?_ | fail)))⟩
    | none =>
      go_enter Tryd.func53, Tryd.ntmps53
      go_wp2_with fail
      refine wp_loop_rounds 3 ?_
      rw [rounds_succ]
      go_wp2_with fail
      refine (Itoa_any 2 (by omega) (by omega) _).mono ?_
      rintro e w1 ⟨rfl, rfl⟩
      go_wp2_with fail
      refine (skip_no R s (dec 2) _ (by exact (by repeat (first | (refine (heap_setCell_past _ _ _ _ ?_).trans ?_; · (first | omega | (simp; done) | (simp; omega) | fail)) | (refine (heap_alloc_past _ _ _ ?_).trans ?_; · (first | omega | (simp; done) | (simp; omega) | fail)) | exact HR.out | fail))) hs2).mono ?_
      rintro e w1 ⟨rfl, hw1⟩
      have HB0 := Lib.hid (show w1.heap[w.heap.size]? = some (.cells #[.int .i64 0, .int .i64 0] 39) from hw1.block (by exact (by repeat (first | exact heap_alloc_at _ _ _ (by (first | omega | (simp; done) | (simp; omega) | fail)) | (refine (heap_alloc_past _ _ _ ?_).trans ?_; · (first | omega | (simp; done) | (simp; omega) | fail)) | fail))) (by omega))
      have b1 : w1.heap[w.heap.size + 1]? = some (.cells #[.int .i64 1, .int .i64 0] 39) := hw1.block (by exact (by repeat (first | exact heap_alloc_at _ _ _ (by (first | omega | (simp; done) | (simp; omega) | fail)) | (refine (heap_alloc_past _ _ _ ?_).trans ?_; · (first | omega | (simp; done) | (simp; omega) | fail)) | fail))) (by omega)
      have HR1' := Lib.hid hw1.rd
      have HO1' := Lib.hid (show OnlyIn (fun k => k = R) w w1 from OnlyIn.trans (by exact (by repeat (first | exact OnlyIn.refl _ _ | (refine OnlyIn.setNew ?_ _ _ ?_; rotate_left; · (first | omega | (simp; done) | (simp; omega) | fail)) | refine OnlyIn.alloc' ?_ _ | refine OnlyIn.drew' ?_ | fail))) hw1.only)
      have c0 := blk_cell b1 0; have c1 := blk_cell b1 1
      have f0 := blk_free b1 0; have f1 := blk_free b1 1
      have HB1' := Lib.hid b1
      clear b1 hw1
      go_wp2_with fail
      rw [rounds_succ]
      go_wp2_with fail
      refine (Itoa_any 3 (by omega) (by omega) _).mono ?_
      rintro e w1' ⟨rfl, rfl⟩
      go_wp2_with fail
      refine (skip_no R s (dec 3) _ HR1'.out hs3).mono ?_
      rintro e w3 ⟨rfl, hw3⟩
      have HB0 := Lib.hid (hw3.block HB0.out (by omega))
      have HB1 := Lib.hid (hw3.block HB1'.out (by omega))
      have HO1 := Lib.hid (HO1'.out.trans hw3.only)
      have HR1 := Lib.hid hw3.rd
      clear c0 c1 f0 f1 hw3 HB1' HO1' HR1'
      go_wp2_with fail
      rw [rounds_succ]
      go_wp2_with fail
      refine (letter_any R s _ HR1.out).mono ?_
      intro e w2 hp
      cases hl : letterF s with
      | none =>
        rw [hl] at hp
        obtain ⟨rfl, t', hw2⟩ := hp
        have hF : Hid (sigF s = none) := by show _ = _; simp [sigF, roundF, hl, hs2, hs3]
        have HO := Lib.hid (HO1.out.trans hw2.only)
        have HR2 := Lib.hid hw2.rd
        clear hw2
        go_wp2_with fail
        refine ⟨rfl, ?_⟩
        show ReadPost R _ (sigF s) _ _ _
        rw [hF.out]
        exact ⟨rfl, t', HR2.out, HO.out⟩
      | some p =>
        obtain ⟨n, t⟩ := p
        rw [hl] at hp
        obtain ⟨rfl, hw2⟩ := hp
        have hF : Hid (sigF s = some ((1, n), t)) := by show _ = _; simp [sigF, roundF, hl, hs2, hs3]
        have HO := Lib.hid (HO1.out.trans hw2.only)
        have HR2 := Lib.hid hw2.rd
        have H0 := Lib.hid (hw2.block HB0.out (by omega))
        have H1 := Lib.hid (hw2.block HB1.out (by omega))
        have z0 := blk_cell H0.out 0; have z1 := blk_cell H0.out 1
        have y0 := blk_free H0.out 0; have y1 := blk_free H0.out 1
        have c0 := blk_cell H1.out 0; have c1 := blk_cell H1.out 1
        have f0 := blk_free H1.out 0; have f1 := blk_free H1.out 1
        clear hw2 hl hs2 hs3
        go_wp2_with fail
        refine bodyPost_ret (v := .agg #[.int .i64 1, .int .i64 n]) (by simp [results, Tryd.results53, go_sem, z0, z1]) rfl ?_
        show ReadPost R _ (sigF s) _ _ _
        rw [hF.out]
        exact ⟨rfl, (by exact (by repeat (first | (refine (heap_setCell_past _ _ _ _ ?_).trans ?_; · (first | omega | (simp; done) | (simp; omega) | fail)) | (refine (heap_alloc_past _ _ _ ?_).trans ?_; · (first | omega | (simp; done) | (simp; omega) | fail)) | exact HR2.out | fail))), (by exact (by repeat (first | exact HO.out | (refine OnlyIn.setNew ?_ _ _ ?_; rotate_left; · (first | omega | (simp; done) | (simp; omega) | fail)) | refine OnlyIn.alloc' ?_ _ | refine OnlyIn.drew' ?_ | fail)))⟩

end Go.Proofs.YtlekbddlemfokaaDoor
