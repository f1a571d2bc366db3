/- The parts Rc, Re of the proof, joined. It holds without conditions of its own. -/
import Derived.Test.YtajjhmmmifenaaaGreatDoorOM12
/- Contracts of the reader: a signature, a change. -/
namespace Go.Proofs.YtajjhmmmifenaaaGreatDoor
set_option linter.unusedSimpArgs false
set_option linter.unusedVariables false
open Go Go.RowKit Go.Sort Go.BigFrame Go.Lib

theorem OnlyIn.setNew {X : Nat → Prop} {w W : World} (h : OnlyIn X w W) (p : Addr) (v : Value) (hp : w.heap.size ≤ p.block) : OnlyIn X w (W.setCell p v) := h.fresh (OnlyIn.setCell W p v hp)
theorem OnlyIn.alloc' {X : Nat → Prop} {w W : World} (h : OnlyIn X w W) (o : Obj) : OnlyIn X w (W.alloc o) := h.trans (OnlyIn.alloc X W o)
theorem OnlyIn.drew' {X : Nat → Prop} {w W : World} (h : OnlyIn X w W) : OnlyIn X w W.drew := h.trans (OnlyIn.drew X W)
def sigV (a : Int × Int) : Value := .agg #[.int .i64 a.1, .int .i64 a.2]

set_option maxHeartbeats 1000000 in
theorem sig_any (R : Nat) (s : Bs) (w : World) (hr : Rd w R s) :
    Calls Tryz.prog 103 #[.pointer (some ⟨R, 0, none⟩)] w (ReadPost R sigV (sigF s) w) := by
  have HR := Lib.hid hr
  have hR := blk_lt hr
  clear hr
  cases hs2 : skipF [50] s with
  | some u =>
    have hs3 : True := trivial
    go_enter Tryz.func103, Tryz.ntmps103
    go_wp2_with fail
    refine wp_loop_rounds 3 ?_
    rw [rounds_succ]
    go_wp2_with fail
    refine (Itoa_any 2 (by omega) (by omega) _).mono ?_
    rintro e w1 ⟨rfl, rfl⟩
    go_wp2_with fail
    refine (skip_yes R s (dec 2) u _ (by exact (by repeat (first | (refine (heap_setCell_past _ _ _ _ ?_).trans ?_; · (first | omega | (simp; done) | (simp; omega) | fail)) | (refine (heap_alloc_past _ _ _ ?_).trans ?_; · (first | omega | (simp; done) | (simp; omega) | fail)) | exact HR.out | fail))) hs2).mono ?_
    rintro e w1 ⟨rfl, hw1⟩
    have HB0 := Lib.hid (show w1.heap[w.heap.size]? = some (.cells #[.int .i64 0, .int .i64 0] 56) from hw1.block (by exact (by repeat (first | exact heap_alloc_at _ _ _ (by (first | omega | (simp; done) | (simp; omega) | fail)) | (refine (heap_alloc_past _ _ _ ?_).trans ?_; · (first | omega | (simp; done) | (simp; omega) | fail)) | fail))) (by omega))
    have b1 : w1.heap[w.heap.size + 1]? = some (.cells #[.int .i64 1, .int .i64 0] 56) := hw1.block (by exact (by repeat (first | exact heap_alloc_at _ _ _ (by (first | omega | (simp; done) | (simp; omega) | fail)) | (refine (heap_alloc_past _ _ _ ?_).trans ?_; · (first | omega | (simp; done) | (simp; omega) | fail)) | fail))) (by omega)
    have HR1' := Lib.hid hw1.rd
    have HO1' := Lib.hid (show OnlyIn (fun k => k = R) w w1 from OnlyIn.trans (by exact (by repeat (first | exact OnlyIn.refl _ _ | (refine OnlyIn.setNew ?_ _ _ ?_; rotate_left; · (first | omega | (simp; done) | (simp; omega) | fail)) | refine OnlyIn.alloc' ?_ _ | refine OnlyIn.drew' ?_ | fail))) hw1.only)
    have c0 := blk_cell b1 0; have c1 := blk_cell b1 1
    have f0 := blk_free b1 0; have f1 := blk_free b1 1
    have HB1' := Lib.hid b1
    clear b1 hw1
    go_wp2_with fail
    have HB0 := Lib.hid (show (w1.setCell ⟨w.heap.size + 1, 0, none⟩ (.int .i64 2)).heap[w.heap.size]? = some (.cells #[.int .i64 0, .int .i64 0] 56) from (by repeat (first | (refine (heap_setCell_past _ _ _ _ ?_).trans ?_; · (first | omega | (simp; done) | (simp; omega) | fail)) | (refine (heap_alloc_past _ _ _ ?_).trans ?_; · (first | omega | (simp; done) | (simp; omega) | fail)) | exact HB0.out | fail)))
    have HB1 := Lib.hid (show (w1.setCell ⟨w.heap.size + 1, 0, none⟩ (.int .i64 2)).heap[w.heap.size + 1]? = some (.cells #[.int .i64 2, .int .i64 0] 56) from blk_set HB1'.out 0 _)
    have HR1 := Lib.hid (show Rd (w1.setCell ⟨w.heap.size + 1, 0, none⟩ (.int .i64 2)) R u from (by repeat (first | (refine (heap_setCell_past _ _ _ _ ?_).trans ?_; · (first | omega | (simp; done) | (simp; omega) | fail)) | (refine (heap_alloc_past _ _ _ ?_).trans ?_; · (first | omega | (simp; done) | (simp; omega) | fail)) | exact HR1'.out | fail)))
    have HO1 := Lib.hid (show OnlyIn (fun k => k = R) w (w1.setCell ⟨w.heap.size + 1, 0, none⟩ (.int .i64 2)) from (by repeat (first | exact HO1'.out | (refine OnlyIn.setNew ?_ _ _ ?_; rotate_left; · (first | omega | (simp; done) | (simp; omega) | fail)) | refine OnlyIn.alloc' ?_ _ | refine OnlyIn.drew' ?_ | fail)))
    clear c0 c1 f0 f1 HB1' HR1' HO1'
    refine (letter_any R u _ HR1.out).mono ?_
    intro e w2 hp
    cases hl : letterF u with
    | none =>
      rw [hl] at hp
      obtain ⟨rfl, t', hw2⟩ := hp
      have hF : Hid (sigF s = none) := by show _ = _; simp [sigF, roundF, hl, hs2, hs3]
      have HO := Lib.hid (HO1.out.trans hw2.only)
      have HR2 := Lib.hid hw2.rd
      clear hw2
      go_wp2_with fail
      refine ⟨rfl, ?_⟩
      show ReadPost R _ (sigF s) _ _ _
      rw [hF.out]
      exact ⟨rfl, t', HR2.out, HO.out⟩
    | some p =>
      obtain ⟨n, t⟩ := p
      rw [hl] at hp
      obtain ⟨rfl, hw2⟩ := hp
      have hF : Hid (sigF s = some ((2, n), t)) := by show _ = _; simp [sigF, roundF, hl, hs2, hs3]
      have HO := Lib.hid (HO1.out.trans hw2.only)
      have HR2 := Lib.hid hw2.rd
      have H0 := Lib.hid (hw2.block HB0.out (by omega))
      have H1 := Lib.hid (hw2.block HB1.out (by omega))
      have z0 := blk_cell H0.out 0; have z1 := blk_cell H0.out 1
      have y0 := blk_free H0.out 0; have y1 := blk_free H0.out 1
      have c0 := blk_cell H1.out 0; have c1 := blk_cell H1.out 1
      have f0 := blk_free H1.out 0; have f1 := blk_free H1.out 1
      clear hw2 hl hs2 hs3
      go_wp2_with fail
      refine bodyPost_ret (v := .agg #[.int .i64 2, .int .i64 n]) (by simp [results, Tryz.results103, go_sem, z0, z1]) rfl ?_
      show ReadPost R _ (sigF s) _ _ _
      rw [hF.out]
      exact ⟨rfl, (by exact (by repeat (first | (refine (heap_setCell_past _ _ _ _ ?_).trans ?_; · (first | omega | (simp; done) | (simp; omega) | fail)) | (refine (heap_alloc_past _ _ _ ?_).trans ?_; · (first | omega | (simp; done) | (simp; omega) | fail)) | exact HR2.out | fail))), (by exact (by repeat (first | exact HO.out | (refine OnlyIn.setNew ?_ _ _ ?_; rotate_left; · (first | omega | (simp; done) | (simp; omega) | fail)) | refine OnlyIn.alloc' ?_ _ | refine OnlyIn.drew' ?_ | fail)))⟩
  | none =>
    cases hs3 : skipF [51] s with
    | some u =>
      go_enter Tryz.func103, Tryz.ntmps103
      go_wp2_with fail
      refine wp_loop_rounds 3 ?_
      rw [rounds_succ]
      go_wp2_with fail
      refine (Itoa_any 2 (by omega) (by omega) _).mono ?_
      rintro e w1 ⟨rfl, rfl⟩
      go_wp2_with fail
      refine (skip_no R s (dec 2) _ (by exact (by repeat (first | (refine (heap_setCell_past _ _ _ _ ?_).trans ?_; · (first | omega | (simp; done) | (simp; omega) | fail)) | (refine (heap_alloc_past _ _ _ ?_).trans ?_; · (first | omega | (simp; done) | (simp; omega) | fail)) | exact HR.out | fail))) hs2).mono ?_
      rintro e w1 ⟨rfl, hw1⟩
      have HB0 := Lib.hid (show w1.heap[w.heap.size]? = some (.cells #[.int .i64 0, .int .i64 0] 56) from hw1.block (by exact (by repeat (first | exact heap_alloc_at _ _ _ (by (first | omega | (simp; done) | (simp; omega) | fail)) | (refine (heap_alloc_past _ _ _ ?_).trans ?_; · (first | omega | (simp; done) | (simp; omega) | fail)) | fail))) (by omega))
      have b1 : w1.heap[w.heap.size + 1]? = some (.cells #[.int .i64 1, .int .i64 0] 56) := hw1.block (by exact (by repeat (first | exact heap_alloc_at _ _ _ (by (first | omega | (simp; done) | (simp; omega) | fail)) | (refine (heap_alloc_past _ _ _ ?_).trans ?_; · (first | omega | (simp; done) | (simp; omega) | fail)) | fail))) (by omega)
      have HR1' := Lib.hid hw1.rd
      have HO1' := Lib.hid (show OnlyIn (fun k => k = R) w w1 from OnlyIn.trans (by exact (by repeat (first | exact OnlyIn.refl _ _ | (refine OnlyIn.setNew ?_ _ _ ?_; rotate_left; · (first | omega | (simp; done) | (simp; omega) | fail)) | refine OnlyIn.alloc' ?_ _ | refine OnlyIn.drew' ?_ | fail))) hw1.only)
      have c0 := blk_cell b1 0; have c1 := blk_cell b1 1
      have f0 := blk_free b1 0; have f1 := blk_free b1 1
      have HB1' := Lib.hid b1
      clear b1 hw1
      go_wp2_with fail
      rw [rounds_succ]
      go_wp2_with fail
      refine (Itoa_any 3 (by omega) (by omega) _).mono ?_
      rintro e w1' ⟨rfl, rfl⟩
      go_wp2_with fail
      refine (skip_yes R s (dec 3) u _ HR1'.out hs3).mono ?_
      rintro e w3 ⟨rfl, hw3⟩
      have HB0 := Lib.hid (hw3.block HB0.out (by omega))
      have HB1' := Lib.hid (hw3.block HB1'.out (by omega))
      have HO1' := Lib.hid (HO1'.out.trans hw3.only)
      have HR1' := Lib.hid hw3.rd
      clear c0 c1 f0 f1 hw3
      have c0 := blk_cell HB1'.out 0; have c1 := blk_cell HB1'.out 1
      have f0 := blk_free HB1'.out 0; have f1 := blk_free HB1'.out 1
      go_wp2_with fail
      have HB0 := Lib.hid (show (w3.setCell ⟨w.heap.size + 1, 0, none⟩ (.int .i64 3)).heap[w.heap.size]? = some (.cells #[.int .i64 0, .int .i64 0] 56) from (by repeat (first | (refine (heap_setCell_past _ _ _ _ ?_).trans ?_; · (first | omega | (simp; done) | (simp; omega) | fail)) | (refine (heap_alloc_past _ _ _ ?_).trans ?_; · (first | omega | (simp; done) | (simp; omega) | fail)) | exact HB0.out | fail)))
      have HB1 := Lib.hid (show (w3.setCell ⟨w.heap.size + 1, 0, none⟩ (.int .i64 3)).heap[w.heap.size + 1]? = some (.cells #[.int .i64 3, .int .i64 0] 56) from blk_set HB1'.out 0 _)
      have HR1 := Lib.hid (show Rd (w3.setCell ⟨w.heap.size + 1, 0, none⟩ (.int .i64 3)) R u from (by repeat (first | (refine (heap_setCell_past _ _ _ _ ?_).trans ?_; · (first | omega | (simp; done) | (simp; omega) | fail)) | (refine (heap_alloc_past _ _ _ ?_).trans ?_; · (first | omega | (simp; done) | (simp; omega) | fail)) | exact HR1'.out | fail)))
      have HO1 := Lib.hid (show OnlyIn (fun k => k = R) w (w3.setCell ⟨w.heap.size + 1, 0, none⟩ (.int .i64 3)) from (by repeat (first | exact HO1'.out | (refine OnlyIn.setNew ?_ _ _ ?_; rotate_left; · (first | omega | (simp; done) | (simp; omega) | fail)) | refine OnlyIn.alloc' ?_ _ | refine OnlyIn.drew' ?_ | fail)))
      clear c0 c1 f0 f1 HB1' HR1' HO1'
      refine (letter_any R u _ HR1.out).mono ?_
      intro e w2 hp
      cases hl : letterF u with
      | none =>
        rw [hl] at hp
        obtain ⟨rfl, t', hw2⟩ := hp
        have hF : Hid (sigF s = none) := by show _ = _; simp [sigF, roundF, hl, hs2, hs3]
        have HO := Lib.hid (HO1.out.trans hw2.only)
        have HR2 := Lib.hid hw2.rd
        clear hw2
        go_wp2_with fail
        refine ⟨rfl, ?_⟩
        show ReadPost R _ (sigF s) _ _ _
        rw [hF.out]
        exact ⟨rfl, t', HR2.out, HO.out⟩
      | some p =>
        obtain ⟨n, t⟩ := p
        rw [hl] at hp
        obtain ⟨rfl, hw2⟩ := hp
        have hF : Hid (sigF s = some ((3, n), t)) := by show _ = _; simp [sigF, roundF, hl, hs2, hs3]
        have HO := Lib.hid (HO1.out.trans hw2.only)
        have HR2 := Lib.hid hw2.rd
        have H0 := Lib.hid (hw2.block HB0.out (by omega))
        have H1 := Lib.hid (hw2.block HB1.out (by omega))
        have z0 := blk_cell H0.out 0; have z1 := blk_cell H0.out 1
        have y0 := blk_free H0.out 0; have y1 := blk_free H0.out 1
        have c0 := blk_cell H1.out 0; have c1 := blk_cell H1.out 1
        have f0 := blk_free H1.out 0; have f1 := blk_free H1.out 1
        clear hw2 hl hs2 hs3
        go_wp2_with fail
        refine bodyPost_ret (v := .agg #[.int .i64 3, .int .i64 n]) (by simp [results, Tryz.results103, go_sem, z0, z1]) rfl ?_
        show ReadPost R _ (sigF s) _ _ _
        rw [hF.out]
        exact ⟨rfl, (by exact (by repeat (first | (refine (heap_setCell_past _ _ _ _ ?_).trans ?_; · (first | omega | (simp; done) | (simp; omega) | fail)) | (refine (heap_alloc_past _ _ _ ?_).trans ?_; · (first | omega | (simp; done) | (simp; omega) | fail)) | exact HR2.out | fail))), (by exact (by repeat (first | exact HO.out | (refine OnlyIn.setNew ?_ _ _ ?_; rotate_left; · (first | omega | (simp; done) | (simp; omega) | fail)) | refine OnlyIn.alloc' ?_ _ | refine OnlyIn.drew' ?_ | fail)))⟩
    | none =>
      go_enter Tryz.func103, Tryz.ntmps103
      go_wp2_with fail
      refine wp_loop_rounds 3 ?_
      rw [rounds_succ]
      go_wp2_with fail
      refine (Itoa_any 2 (by omega) (by omega) _).mono ?_
      rintro e w1 ⟨rfl, rfl⟩
      go_wp2_with fail
      refine (skip_no R s (dec 2) _ (by exact (by repeat (first | (refine (heap_setCell_past _ _ _ _ ?_).trans ?_; · (first | omega | (simp; done) | (simp; omega) | fail)) | (refine (heap_alloc_past _ _ _ ?_).trans ?_; · (first | omega | (simp; done) | (simp; omega) | fail)) | exact HR.out | fail))) hs2).mono ?_
      rintro e w1 ⟨rfl, hw1⟩
      have HB0 := Lib.hid (show w1.heap[w.heap.size]? = some (.cells #[.int .i64 0, .int .i64 0] 56) from hw1.block (by exact (by repeat (first | exact heap_alloc_at _ _ _ (by (first | omega | (simp; done) | (simp; omega) | fail)) | (refine (heap_alloc_past _ _ _ ?_).trans ?_; · (first | omega | (simp; done) | (simp; omega) | fail)) | fail))) (by omega))
      have b1 : w1.heap[w.heap.size + 1]? = some (.cells #[.int .i64 1, .int .i64 0] 56) := hw1.block (by exact (by repeat (first | exact heap_alloc_at _ _ _ (by (first | omega | (simp; done) | (simp; omega) | fail)) | (refine (heap_alloc_past _ _ _ ?_).trans ?_; · (first | omega | (simp; done) | (simp; omega) | fail)) | fail))) (by omega)
      have HR1' := Lib.hid hw1.rd
      have HO1' := Lib.hid (show OnlyIn (fun k => k = R) w w1 from OnlyIn.trans (by exact (by repeat (first | exact OnlyIn.refl _ _ | (refine OnlyIn.setNew ?_ _ _ ?_; rotate_left; · (first | omega | (simp; done) | (simp; omega) | fail)) | refine OnlyIn.alloc' ?_ _ | refine OnlyIn.drew' ?_ | fail))) hw1.only)
      have c0 := blk_cell b1 0; have c1 := blk_cell b1 1
      have f0 := blk_free b1 0; have f1 := blk_free b1 1
      have HB1' := Lib.hid b1
      clear b1 hw1
      go_wp2_with fail
      rw [rounds_succ]
      go_wp2_with fail
      refine (Itoa_any 3 (by omega) (by omega) _).mono ?_
      rintro e w1' ⟨rfl, rfl⟩
      go_wp2_with fail
      refine (skip_no R s (dec 3) _ HR1'.out hs3).mono ?_
      rintro e w3 ⟨rfl, hw3⟩
      have HB0 := Lib.hid (hw3.block HB0.out (by omega))
      have HB1 := Lib.hid (hw3.block HB1'.out (by omega))
      have HO1 := Lib.hid (HO1'.out.trans hw3.only)
      have HR1 := Lib.hid hw3.rd
      clear c0 c1 f0 f1 hw3 HB1' HO1' HR1'
      go_wp2_with fail
      rw [rounds_succ]
      go_wp2_with fail
      refine (letter_any R s _ HR1.out).mono ?_
      intro e w2 hp
      cases hl : letterF s with
      | none =>
        rw [hl] at hp
        obtain ⟨rfl, t', hw2⟩ := hp
        have hF : Hid (sigF s = none) := by show _ = _; simp [sigF, roundF, hl, hs2, hs3]
        have HO := Lib.hid (HO1.out.trans hw2.only)
        have HR2 := Lib.hid hw2.rd
        clear hw2
        go_wp2_with fail
        refine ⟨rfl, ?_⟩
        show ReadPost R _ (sigF s) _ _ _
        rw [hF.out]
        exact ⟨rfl, t', HR2.out, HO.out⟩
      | some p =>
        obtain ⟨n, t⟩ := p
        rw [hl] at hp
        obtain ⟨rfl, hw2⟩ := hp
        have hF : Hid (sigF s = some ((1, n), t)) := by show _ = _; simp [sigF, roundF, hl, hs2, hs3]
        have HO := Lib.hid (HO1.out.trans hw2.only)
        have HR2 := Lib.hid hw2.rd
        have H0 := Lib.hid (hw2.block HB0.out (by omega))
        have H1 := Lib.hid (hw2.block HB1.out (by omega))
        have z0 := blk_cell H0.out 0; have z1 := blk_cell H0.out 1
        have y0 := blk_free H0.out 0; have y1 := blk_free H0.out 1
        have c0 := blk_cell H1.out 0; have c1 := blk_cell H1.out 1
        have f0 := blk_free H1.out 0; have f1 := blk_free H1.out 1
        clear hw2 hl hs2 hs3
        go_wp2_with fail
        refine bodyPost_ret (v := .agg #[.int .i64 1, .int .i64 n]) (by simp [results, Tryz.results103, go_sem, z0, z1]) rfl ?_
        show ReadPost R _ (sigF s) _ _ _
        rw [hF.out]
        exact ⟨rfl, (by exact (by repeat (first | (refine (heap_setCell_past _ _ _ _ ?_).trans ?_; · (first | omega | (simp; done) | (simp; omega) | fail)) | (refine (heap_alloc_past _ _ _ ?_).trans ?_; · (first | omega | (simp; done) | (simp; omega) | fail)) | exact HR2.out | fail))), (by exact (by repeat (first | exact HO.out | (refine OnlyIn.setNew ?_ _ _ ?_; rotate_left; · (first | omega | (simp; done) | (simp; omega) | fail)) | refine OnlyIn.alloc' ?_ _ | refine OnlyIn.drew' ?_ | fail)))⟩

end Go.Proofs.YtajjhmmmifenaaaGreatDoor

/- Contracts of the reader: a change. -/
namespace Go.Proofs.YtajjhmmmifenaaaGreatDoor
set_option linter.unusedSimpArgs false
set_option linter.unusedVariables false
open Go Go.RowKit Go.Sort Go.BigFrame Go.Lib

/-- A reading function that holds two boxes: its result's and its variable's. -/
structure Bx (w W : World) (R : Nat) (s : Bs) (T : TypeId) (z c : Array Value) : Prop where
  b0 : W.heap[w.heap.size]? = some (.cells z T)
  b1 : W.heap[w.heap.size + 1]? = some (.cells c T)
  rd : Rd W R s
  only : OnlyIn (fun k => k = R) w W
  lt : R < w.heap.size
theorem Bx.call {w W W' : World} {R : Nat} {s t : Bs} {T : TypeId} {z c : Array Value} (h : Bx w W R s T z c) (k : Rw R t W W') : Bx w W' R t T z c :=
  ⟨k.block h.b0 (by have := h.lt; omega), k.block h.b1 (by have := h.lt; omega), k.rd, h.only.trans k.only, h.lt⟩
theorem Bx.same {w W W' : World} {R : Nat} {s : Bs} {T : TypeId} {z c : Array Value} (h : Bx w W R s T z c) (k : Below W.heap.size W W') : Bx w W' R s T z c :=
  ⟨blk_later k h.b0, blk_later k h.b1, blk_later k h.rd, h.only.trans (OnlyIn.of_below k), h.lt⟩
theorem Bx.set1 {w W : World} {R : Nat} {s : Bs} {T : TypeId} {z c : Array Value} (h : Bx w W R s T z c) (i : Nat) (v : Value) : Bx w (W.setCell ⟨w.heap.size + 1, i, none⟩ v) R s T z (c.setIfInBounds i v) :=
  ⟨(heap_setCell_past _ _ _ _ (by simp)).trans h.b0, blk_set h.b1 i v, (heap_setCell_past _ _ _ _ (by have := h.lt; simp; omega)).trans h.rd, h.only.setNew _ _ (by simp), h.lt⟩
theorem Bx.set0 {w W : World} {R : Nat} {s : Bs} {T : TypeId} {z c : Array Value} (h : Bx w W R s T z c) (i : Nat) (v : Value) : Bx w (W.setCell ⟨w.heap.size, i, none⟩ v) R s T (z.setIfInBounds i v) c :=
  ⟨blk_set h.b0 i v, (heap_setCell_past _ _ _ _ (by simp)).trans h.b1, (heap_setCell_past _ _ _ _ (by have := h.lt; simp; omega)).trans h.rd, h.only.setNew _ _ (by simp), h.lt⟩
theorem Bx.rw {w W : World} {R : Nat} {s : Bs} {T : TypeId} {z c : Array Value} (h : Bx w W R s T z c) : Rw R s w W := ⟨h.rd, h.only⟩
theorem Bx.cast {w W : World} {R : Nat} {s : Bs} {T : TypeId} {z z' c c' : Array Value} (h : Bx w W R s T z c) (hz : z = z') (hc : c = c') : Bx w W R s T z' c' := by subst hz; subst hc; exact h
theorem Bx.start {w : World} {R : Nat} {s : Bs} {T : TypeId} {z c : Array Value} (hr : Rd w R s) : Bx w ((w.alloc (.cells z T)).alloc (.cells c T)) R s T z c :=
  have hR := blk_lt hr
  ⟨(heap_alloc_past _ _ _ (by simp)).trans (heap_alloc_at _ _ _ rfl), heap_alloc_at _ _ _ (by simp), (heap_alloc_past _ _ _ (by simp; omega)).trans ((heap_alloc_past _ _ _ hR).trans hr), OnlyIn.trans (OnlyIn.alloc _ _ _) (OnlyIn.alloc _ _ _), hR⟩
/-- The end by a panic. -/
theorem ReadPost.fail {α : Type} {R : Nat} {enc : α → Value} {r : Option (α × Bs)} {w w' : World} {t : Bs} (hr : r = none) (h : Rw R t w w') : ReadPost R enc r w panicE w' := by subst hr; exact ⟨rfl, t, h⟩
theorem ReadPost.done {α : Type} {R : Nat} {enc : α → Value} {r : Option (α × Bs)} {w w' : World} {t : Bs} {x : α} {v : Value} (hr : r = some (x, t)) (hv : enc x = v) (h : Rw R t w w') : ReadPost R enc r w (.returned v) w' := by subst hr; exact ⟨by rw [hv], h⟩

def chgV (c : Chg) : Value := .agg #[.int .i64 c.kind, .int .i64 c.pos, .int .i64 c.many]

-- a store into a cell of the variable's box: the new world under a name
-- number_any has been met at u: its end by a panic
set_option maxHeartbeats 2000000 in
theorem change_any (R : Nat) (s : Bs) (w : World) (hr : Rd w R s) :
    Calls Tryz.prog 127 #[.pointer (some ⟨R, 0, none⟩)] w (ReadPost R chgV (changeF s) w) := by
  have HX := Lib.hid (Bx.start (T := 61) (z := #[.int .i64 0, .int .i64 0, .int .i64 0]) (c := #[.int .i64 0, .int .i64 0, .int .i64 0]) hr)
  clear hr
  cases hs : skipF [45] s with
  | some t =>
    go_enter Tryz.func127, Tryz.ntmps127
    go_wp2_with fail
    refine (skip_yes R s [45] t _ HX.out.rd hs).mono ?_
    rintro e w1 ⟨rfl, hw1⟩
    have HX := Lib.hid (HX.out.call hw1)
    clear hw1
    have c0 := blk_cell HX.out.b1 0; have c1 := blk_cell HX.out.b1 1; have c2 := blk_cell HX.out.b1 2
    have f0 := blk_free HX.out.b1 0; have f1 := blk_free HX.out.b1 1; have f2 := blk_free HX.out.b1 2
    have z0 := blk_cell HX.out.b0 0; have z1 := blk_cell HX.out.b0 1; have z2 := blk_cell HX.out.b0 2
    have y0 := blk_free HX.out.b0 0; have y1 := blk_free HX.out.b0 1; have y2 := blk_free HX.out.b0 2
    go_wp2_with fail
    clear c0 c1 c2 f0 f1 f2 z0 z1 z2 y0 y1 y2
    have HX := Lib.hid (HX.out.set1 0 (.int .i64 1))
    revert HX
    generalize w1.setCell ⟨w.heap.size + 1, 0, none⟩ (.int .i64 1) = w2
    intro HX
    refine (number_any R t _ HX.out.rd).mono ?_
    intro e w3 hp
    cases hl : numberF t with
    | none =>
      rw [hl] at hp
      have hF : changeF s = none := by simp [changeF, *]
      obtain ⟨rfl, t', hw⟩ := hp
      have HX := Lib.hid (HX.out.call hw)
      have HF := Lib.hid hF
      clear hw hl hF
      go_wp2_with fail
      exact ⟨rfl, ReadPost.fail HF.out HX.out.rw⟩
    | some p =>
      obtain ⟨n, u⟩ := p
      rw [hl] at hp
      obtain ⟨rfl, hw⟩ := hp
      have hF : Hid (changeF s = some (⟨1, n, 0⟩, u)) := by show _ = _; simp [changeF, *]
      have HX := Lib.hid (HX.out.call hw)
      clear hw hl
      have c0 := blk_cell HX.out.b1 0; have c1 := blk_cell HX.out.b1 1; have c2 := blk_cell HX.out.b1 2
      have f0 := blk_free HX.out.b1 0; have f1 := blk_free HX.out.b1 1; have f2 := blk_free HX.out.b1 2
      have z0 := blk_cell HX.out.b0 0; have z1 := blk_cell HX.out.b0 1; have z2 := blk_cell HX.out.b0 2
      have y0 := blk_free HX.out.b0 0; have y1 := blk_free HX.out.b0 1; have y2 := blk_free HX.out.b0 2
      go_wp2_with fail
      refine bodyPost_ret (v := .agg #[.int .i64 1, .int .i64 n, .int .i64 0]) (by simp [results, Tryz.results127, go_sem, z0, z1, z2]) rfl ?_
      exact ReadPost.done hF.out rfl ((((HX.out.set1 _ _).set0 0 _).set0 1 _).set0 2 _).rw
  | none =>
    cases hs2 : skipF [61] s with
    | some t =>
      go_enter Tryz.func127, Tryz.ntmps127
      go_wp2_with fail
      refine (skip_no R s [45] _ HX.out.rd hs).mono ?_
      rintro e w0 ⟨rfl, hw1⟩
      have HX := Lib.hid (HX.out.call hw1)
      clear hw1
      go_wp2_with fail
      refine (skip_yes R s [61] t _ HX.out.rd hs2).mono ?_
      rintro e w1 ⟨rfl, hw1⟩
      have HX := Lib.hid (HX.out.call hw1)
      clear hw1
      have c0 := blk_cell HX.out.b1 0; have c1 := blk_cell HX.out.b1 1; have c2 := blk_cell HX.out.b1 2
      have f0 := blk_free HX.out.b1 0; have f1 := blk_free HX.out.b1 1; have f2 := blk_free HX.out.b1 2
      have z0 := blk_cell HX.out.b0 0; have z1 := blk_cell HX.out.b0 1; have z2 := blk_cell HX.out.b0 2
      have y0 := blk_free HX.out.b0 0; have y1 := blk_free HX.out.b0 1; have y2 := blk_free HX.out.b0 2
      go_wp2_with fail
      clear c0 c1 c2 f0 f1 f2 z0 z1 z2 y0 y1 y2
      have HX := Lib.hid (HX.out.set1 0 (.int .i64 2))
      revert HX
      generalize w1.setCell ⟨w.heap.size + 1, 0, none⟩ (.int .i64 2) = w2
      intro HX
      refine (number_any R t _ HX.out.rd).mono ?_
      intro e w3 hp
      cases hl : numberF t with
      | none =>
        rw [hl] at hp
        have hF : changeF s = none := by simp [changeF, *]
        obtain ⟨rfl, t', hw⟩ := hp
        have HX := Lib.hid (HX.out.call hw)
        have HF := Lib.hid hF
        clear hw hl hF
        go_wp2_with fail
        exact ⟨rfl, ReadPost.fail HF.out HX.out.rw⟩
      | some p =>
        obtain ⟨n, u⟩ := p
        rw [hl] at hp
        obtain ⟨rfl, hw⟩ := hp
        have hF : Hid (changeF s = some (⟨2, n, 0⟩, u)) := by show _ = _; simp [changeF, *]
        have HX := Lib.hid (HX.out.call hw)
        clear hw hl
        have c0 := blk_cell HX.out.b1 0; have c1 := blk_cell HX.out.b1 1; have c2 := blk_cell HX.out.b1 2
        have f0 := blk_free HX.out.b1 0; have f1 := blk_free HX.out.b1 1; have f2 := blk_free HX.out.b1 2
        have z0 := blk_cell HX.out.b0 0; have z1 := blk_cell HX.out.b0 1; have z2 := blk_cell HX.out.b0 2
        have y0 := blk_free HX.out.b0 0; have y1 := blk_free HX.out.b0 1; have y2 := blk_free HX.out.b0 2
        go_wp2_with fail
        refine bodyPost_ret (v := .agg #[.int .i64 2, .int .i64 n, .int .i64 0]) (by simp [results, Tryz.results127, go_sem, z0, z1, z2]) rfl ?_
        exact ReadPost.done hF.out rfl ((((HX.out.set1 _ _).set0 0 _).set0 1 _).set0 2 _).rw
    | none =>
      go_enter Tryz.func127, Tryz.ntmps127
      go_wp2_with fail
      refine (skip_no R s [45] _ HX.out.rd hs).mono ?_
      rintro e w0 ⟨rfl, hw1⟩
      have HX := Lib.hid (HX.out.call hw1)
      clear hw1
      go_wp2_with fail
      refine (skip_no R s [61] _ HX.out.rd hs2).mono ?_
      rintro e w1 ⟨rfl, hw1⟩
      have HX := Lib.hid (HX.out.call hw1)
      clear hw1
      have c0 := blk_cell HX.out.b1 0; have c1 := blk_cell HX.out.b1 1; have c2 := blk_cell HX.out.b1 2
      have f0 := blk_free HX.out.b1 0; have f1 := blk_free HX.out.b1 1; have f2 := blk_free HX.out.b1 2
      have z0 := blk_cell HX.out.b0 0; have z1 := blk_cell HX.out.b0 1; have z2 := blk_cell HX.out.b0 2
      have y0 := blk_free HX.out.b0 0; have y1 := blk_free HX.out.b0 1; have y2 := blk_free HX.out.b0 2
      go_wp2_with fail
      clear c0 c1 c2 f0 f1 f2 z0 z1 z2 y0 y1 y2
      have HX := Lib.hid (HX.out.set1 0 (.int .i64 3))
      revert HX
      generalize w1.setCell ⟨w.heap.size + 1, 0, none⟩ (.int .i64 3) = w2
      intro HX
      refine (number_any R s _ HX.out.rd).mono ?_
      intro e w3 hp
      cases hl : numberF s with
      | none =>
        rw [hl] at hp
        have hF : changeF s = none := by simp [changeF, *]
        obtain ⟨rfl, t', hw⟩ := hp
        have HX := Lib.hid (HX.out.call hw)
        have HF := Lib.hid hF
        clear hw hl hF
        go_wp2_with fail
        exact ⟨rfl, ReadPost.fail HF.out HX.out.rw⟩
      | some p =>
        obtain ⟨n, t⟩ := p
        rw [hl] at hp
        obtain ⟨rfl, hw⟩ := hp
        have HX := Lib.hid (HX.out.call hw)
        have HL := Lib.hid hl
        clear hw hl
        have c0 := blk_cell HX.out.b1 0; have c1 := blk_cell HX.out.b1 1; have c2 := blk_cell HX.out.b1 2
        have f0 := blk_free HX.out.b1 0; have f1 := blk_free HX.out.b1 1; have f2 := blk_free HX.out.b1 2
        have z0 := blk_cell HX.out.b0 0; have z1 := blk_cell HX.out.b0 1; have z2 := blk_cell HX.out.b0 2
        have y0 := blk_free HX.out.b0 0; have y1 := blk_free HX.out.b0 1; have y2 := blk_free HX.out.b0 2
        go_wp2_with fail
        clear c0 c1 c2 f0 f1 f2 z0 z1 z2 y0 y1 y2
        have HX := Lib.hid (HX.out.set1 1 (.int .i64 n))
        revert HX
        generalize w3.setCell ⟨w.heap.size + 1, 1, none⟩ (.int .i64 n) = w4
        intro HX
        cases hs3 : skipF [43] t with
        | none =>
          have HF : Hid (changeF s = none) := by show _ = _; simp [changeF, *, HL.out]
          refine (must_no R t [43] _ HX.out.rd hs3).mono ?_
          rintro e w5 ⟨rfl, hw1⟩
          have HX := Lib.hid (HX.out.call hw1)
          clear hw1 hs3
          go_wp2_with fail
          exact ⟨rfl, ReadPost.fail HF.out HX.out.rw⟩
        | some u =>
          refine (must_yes R t [43] u _ HX.out.rd hs3).mono ?_
          rintro e w5 ⟨rfl, hw1⟩
          have HX := Lib.hid (HX.out.call hw1)
          clear hw1
          go_wp2_with fail
          refine (number_any R u _ HX.out.rd).mono ?_
          intro e w6 hp
          cases hl : numberF u with
          | none =>
            rw [hl] at hp
            have hF : changeF s = none := by simp [changeF, *, HL.out]
            obtain ⟨rfl, t', hw⟩ := hp
            have HX := Lib.hid (HX.out.call hw)
            have HF := Lib.hid hF
            clear hw hl hF
            go_wp2_with fail
            exact ⟨rfl, ReadPost.fail HF.out HX.out.rw⟩
          | some p =>
            obtain ⟨m, v⟩ := p
            rw [hl] at hp
            obtain ⟨rfl, hw⟩ := hp
            have HF : Hid (changeF s = some (⟨3, n, m⟩, v)) := by show _ = _; simp [changeF, *, HL.out]
            have HX := Lib.hid (HX.out.call hw)
            clear hw hl
            have c0 := blk_cell HX.out.b1 0; have c1 := blk_cell HX.out.b1 1; have c2 := blk_cell HX.out.b1 2
            have f0 := blk_free HX.out.b1 0; have f1 := blk_free HX.out.b1 1; have f2 := blk_free HX.out.b1 2
            have z0 := blk_cell HX.out.b0 0; have z1 := blk_cell HX.out.b0 1; have z2 := blk_cell HX.out.b0 2
            have y0 := blk_free HX.out.b0 0; have y1 := blk_free HX.out.b0 1; have y2 := blk_free HX.out.b0 2
            go_wp2_with fail
            refine bodyPost_ret (v := .agg #[.int .i64 3, .int .i64 n, .int .i64 m]) (by simp [results, Tryz.results127, go_sem, z0, z1, z2]) rfl ?_
            exact ReadPost.done HF.out rfl ((((HX.out.set1 _ _).set0 0 _).set0 1 _).set0 2 _).rw

end Go.Proofs.YtajjhmmmifenaaaGreatDoor
