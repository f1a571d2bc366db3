/- The parts Ua, Uc of the proof, joined. It holds without conditions of its own. -/
import Derived.Test.YtpdhdgdbknnllaaGreatDoorFX10
set_option maxRecDepth 100000
set_option maxHeartbeats 20000000
namespace Go.Proofs.YtpdhdgdbknnllaaGreatDoor
section
set_option linter.unusedSimpArgs false
set_option linter.unusedVariables false
open Go Go.RowKit Go.Sort Go.BigFrame
theorem cols_rows : ∀ f ∈ allFolds, colsF f * rowsF f = 2 ^ f.length := by decide +kernel
def eachB (l : List Fl) (s : Nat) : Bool := (List.range l.length).all fun i => (matesF l i).length + 1 == s
theorem each_all : ∀ f ∈ allFolds, ∀ n ∈ [1, 2, 3, 4], eachB (leavesF f n false) (2 ^ f.length) = true := by decide +kernel
theorem each_half : ∀ f ∈ allFolds, 2 <= f.length -> eachB (leavesF f 1 true) (2 ^ (f.length - 1)) = true := by decide +kernel
def sizeW (m : Mkw) (f : Fmt) : Nat := if m.half then 2 ^ (f.folds.length - 1) else 2 ^ f.folds.length
theorem fds_len (f : Fmt) : (fdsB f.folds).length = f.folds.length := by unfold fdsB; simp
theorem Fine.size {p : Prs} {m : Mkw} {f : Fmt} (h : Fine p m f) : (leavesW m f).length = sizeW m f * m.sheets.toNat := by
 obtain ⟨h1, h2⟩ := h.mem
 have hc := cols_rows _ h1
 rw [fds_len] at hc
 unfold leavesW sizeW
 cases hh : m.half with
 | false =>
   rw [leaves_count _ h1 _ h2, hc]
   rfl
 | true =>
   obtain ⟨h3, h4⟩ := h.two hh
   rw [h3, if_pos rfl]
   have := leaves_count_half _ h1 h4
   rw [hc] at this
   rw [fds_len] at h4
   obtain ⟨k, hk⟩ : ∃ k, f.folds.length = k + 1 := ⟨f.folds.length - 1, by omega⟩
   rw [hk, Nat.pow_succ] at this
   rw [hk, Nat.add_sub_cancel]
   omega
theorem Fine.each {p : Prs} {m : Mkw} {f : Fmt} (h : Fine p m f) {i : Nat} (hi : i < (leavesW m f).length) : (matesF (leavesW m f) i).length + 1 = sizeW m f := by
 obtain ⟨h1, h2⟩ := h.mem
 have key : eachB (leavesW m f) (sizeW m f) = true := by
  unfold leavesW sizeW
  rw [<- fds_len]
  cases hh : m.half with
  | false => exact each_all _ h1 _ h2
  | true =>
    obtain ⟨h3, h4⟩ := h.two hh
    rw [h3]
    exact each_half _ h1 h4
 have := List.all_eq_true.1 key i (List.mem_range.2 hi)
 simpa using this
theorem Fine.sheet {p : Prs} {m : Mkw} {f : Fmt} (h : Fine p m f) {i : Nat} {a : Fl} (hi : (leavesW m f)[i]? = some a) : a.sheet < m.sheets.toNat := by
 obtain ⟨h1, h2⟩ := h.mem
 have hm := List.mem_of_getElem? hi
 revert hm
 unfold leavesW
 cases hh : m.half with
 | false =>
   intro hm
   have := List.all_eq_true.1 (inside_all _ h1 _ h2) _ hm
   simp only [Bool.and_eq_true, decide_eq_true_eq] at this
   exact this.2
 | true =>
   obtain ⟨h3, h4⟩ := h.two hh
   rw [h3]
   intro hm
   have := List.all_eq_true.1 (inside_half _ h1 h4) _ hm
   simp only [Bool.and_eq_true, decide_eq_true_eq] at this
   exact this.2
end
section
set_option linter.unusedSimpArgs false
set_option linter.unusedVariables false
open Go Go.RowKit Go.Sort Go.BigFrame
def touchB (c n q : Int) : Bool := decide (4 * c <= q * n) && decide (q * n <= 4 * (c + 1))
noncomputable def touchOk (c n q : Int) : Bool := match evCall Tryz.prog 100000 0 106 [.lit (.int .i64 c), .lit (.int .i64 n), .lit (.int .i64 q)] h01 with
 | .ok (.lit (.bool b), _) => b == touchB c n q
 | _ => false
def upto16 : List Int := [0, 1, 2, 3, 4, 5, 6, 7, 8, 9, 10, 11, 12, 13, 14, 15]
def pows : List Int := [1, 2, 4, 8, 16]
theorem touch_all : (upto16.all fun c => pows.all fun n => [1, 2, 3].all fun q => touchOk c n q) = true := by kernel_rfl
theorem touches_any (c n q : Int) (hc : c ∈ upto16) (hn : n ∈ pows) (hq : q ∈ ([1, 2, 3] : List Int)) (W : World) :
  Calls Tryz.prog 106 #[.int .i64 c, .int .i64 n, .int .i64 q] W fun e w' => e = .returned (.bool (touchB c n q)) /\ Below W.heap.size W w' := by
 have h := List.all_eq_true.1 (List.all_eq_true.1 (List.all_eq_true.1 touch_all c hc) n hn) q hq
 unfold touchOk at h
 split at h
 · rename_i b h' he
   have := eval_lits (P := Tryz.prog) followsT (fid := 106) (ys := [.int .i64 c, .int .i64 n, .int .i64 q]) (W := W) he
   refine this.mono ?_
   rintro en W' ⟨x, e', rfl, hx, -, hb, -⟩
   rw [VR_lit.1 hx, beq_iff_eq.1 h]
   exact ⟨rfl, hb⟩
 · cases h
theorem upto16_in {c : Nat} (h : c < 16) : (c : Int) ∈ upto16 := by
 unfold upto16
 simp only [List.mem_cons, List.not_mem_nil, or_false]
 omega
def markB (co ro : Nat) (hf : Nat) (x : Fl) : Bool := touchB x.col co (1 + 2 * hf) && touchB x.row ro 2
def small16B (l : List Fl) : Bool := l.all fun a => decide (a.col < 16) && decide (a.row < 16)
theorem small16_all : ∀ f ∈ allFolds, ∀ n ∈ [1, 2, 3, 4], small16B (leavesF f n false) = true := by decide +kernel
theorem small16_half : ∀ f ∈ allFolds, 2 <= f.length -> small16B (leavesF f 1 true) = true := by decide +kernel
theorem pows_all : ∀ f ∈ allFolds, ((colsF f : Nat) : Int) ∈ pows /\ ((rowsF f : Nat) : Int) ∈ pows := by decide +kernel
theorem Fine.small {p : Prs} {m : Mkw} {f : Fmt} (h : Fine p m f) {i : Nat} {a : Fl} (hi : (leavesW m f)[i]? = some a) : a.col < 16 /\ a.row < 16 := by
 obtain ⟨h1, h2⟩ := h.mem
 have hm := List.mem_of_getElem? hi
 have key : small16B (leavesW m f) = true := by
  unfold leavesW
  cases hh : m.half with
  | false => exact small16_all _ h1 _ h2
  | true =>
    obtain ⟨h3, h4⟩ := h.two hh
    rw [h3]
    exact small16_half _ h1 h4
 have := List.all_eq_true.1 key _ hm
 simpa using this
theorem marked_any (m : Mkw) (s : Bs) (co ro : Nat) (q : Ppr) (tr : Int) (lv : Value) (ls : List Fl) (g i hf : Nat) (x : Fl) (w : World) (hl : LeavesAt w lv ls g) (hn : ls.length <= 1000) (hi : ls[i]? = some x)
  (h1 : x.col < 16) (h2 : x.row < 16) (h3 : (co : Int) ∈ pows) (h4 : (ro : Int) ∈ pows) (h5 : hf <= 1) :
  Calls Tryz.prog 77 #[.agg (wayC m s co ro q tr lv), .int .i64 i, .int .i64 hf] w fun e w' => e = .returned (.bool (markB co ro hf x)) /\ Below w.heap.size w w' := by
 have HL := Lib.hid hl
 obtain ⟨k7, rest, rfl, -⟩ := hl
 obtain ⟨n7, hn7⟩ : ∃ n, n = ls.length := ⟨_, rfl⟩
 rw [<- hn7] at HL hn ⊢
 have hi7 : i < n7 := by rw [hn7]; exact (List.getElem?_eq_some_iff.1 hi).1
 have hb0 : Below w.heap.size w (w.alloc (.cells (wayC m s co ro q tr (.slice (some ⟨g, 0, none⟩) n7 (n7 + k7))) 83)) := (Below.refl _ _).alloc (Nat.le_refl _) _
 have hc1 : (w.alloc (.cells (wayC m s co ro q tr (.slice (some ⟨g, 0, none⟩) n7 (n7 + k7))) 83)).heap[w.heap.size]? = some (.cells (wayC m s co ro q tr (.slice (some ⟨g, 0, none⟩) n7 (n7 + k7))) 83 (0, 0)) := by exact (by repeat (first | exact heap_alloc_at _ _ _ (by (first | omega | (simp; done) | (simp; omega) | (simp at *; omega) | fail)) | assumption | rw [heap_alloc_past _ _ _ (by (first | omega | (simp; done) | (simp; omega) | (simp at *; omega) | fail))] | rw [heap_setCell_past _ _ _ _ (by (first | omega | (simp; done) | (simp; omega) | (simp at *; omega) | fail))] | fail))
 obtain ⟨x0, x1, x2, x3, x4⟩ := leaf_cells (HL.out.later hb0) hi
 have H1 := Lib.hid (upto16_in h1)
 have H2 := Lib.hid (upto16_in h2)
 have H3 := Lib.hid h3
 have H4 := Lib.hid h4
 have H5 : Hid ((1 : Int) + 2 * (hf : Int) ∈ ([1, 2, 3] : List Int)) := Lib.hid (by simp; omega)
 obtain ⟨z, hz⟩ : ∃ z, z = markB co ro hf x := ⟨_, rfl⟩
 rw [<- hz]
 have HZ := Lib.hid hz
 clear hz hn7 hi HL h1 h2 h3 h4
 go_enter Tryz.func77, Tryz.ntmps77
 go_wp2_with fail
 have hs1 : (w.alloc (.cells (wayC m s co ro q tr (.slice (some ⟨g, 0, none⟩) n7 (n7 + k7))) 83)).heap.size = w.heap.size + 1 := by simp
 revert hb0 hc1 x0 x1 x2 x3 x4 hs1
 generalize (w.alloc (.cells (wayC m s co ro q tr (.slice (some ⟨g, 0, none⟩) n7 (n7 + k7))) 83)) = w1
 intro hb0 hc1 x0 x1 x2 x3 x4 hs1
 have HS1 := Lib.hid hs1
 clear hs1
 have d5 := blk_cell hc1 5
 have d6 := blk_cell hc1 6
 have d13 := blk_cell hc1 13
 go_wp2_with fail
 obtain ⟨z1, hz1⟩ : ∃ z, z = touchB x.col co (1 + 2 * (hf : Int)) := ⟨_, rfl⟩
 obtain ⟨z2, hz2⟩ : ∃ z, z = touchB x.row ro 2 := ⟨_, rfl⟩
 have HZ2 : Hid (z = (z1 && z2)) := Lib.hid (by rw [HZ.out, hz1, hz2]; rfl)
 have hb2 : Below w.heap.size w (w1.alloc (.cells #[.int .i64 x.sheet, .int .i64 x.col, .int .i64 x.row, .bool x.inner, .bool x.turned] 106)) := hb0.alloc hb0.size _
 have bx : (w1.alloc (.cells #[.int .i64 x.sheet, .int .i64 x.col, .int .i64 x.row, .bool x.inner, .bool x.turned] 106)).heap[w1.heap.size]? = some (.cells #[.int .i64 x.sheet, .int .i64 x.col, .int .i64 x.row, .bool x.inner, .bool x.turned] 106 (0, 0)) := World.alloc_heap_new _ _
 have hc2 : (w1.alloc (.cells #[.int .i64 x.sheet, .int .i64 x.col, .int .i64 x.row, .bool x.inner, .bool x.turned] 106)).heap[w.heap.size]? = some (.cells (wayC m s co ro q tr (.slice (some ⟨g, 0, none⟩) n7 (n7 + k7))) 83 (0, 0)) := (heap_alloc_past _ _ _ (blk_lt hc1)).trans hc1
 clear x0 x1 x2 x3 x4 d5 d6 d13 hc1 hb0
 refine (touches_any _ _ _ H1.out H3.out H5.out _).mono ?_
 rintro e w9 ⟨rfl, hb⟩
 rw [<- hz1]
 clear hz1
 replace hb2 := hb2.trans (hb.mono hb2.size)
 have d6 := blk_cell (blk_later hb hc2) 6
 have p2 := blk_cell (blk_later hb bx) 2
 rw [HS1.out] at p2
 clear hc2 bx hb
 cases z1 with
 | false =>
   go_wp2_with fail
   go_ret
   exact ⟨by rw [HZ2.out]; rfl, hb2⟩
 | true =>
   go_wp2_with fail
   refine (touches_any _ _ _ H2.out H4.out (by simp) _).mono ?_
   rintro e w9 ⟨rfl, hb⟩
   rw [<- hz2]
   clear hz2
   replace hb2 := hb2.trans (hb.mono hb2.size)
   clear hb
   go_wp2_with fail
   go_ret
   exact ⟨by rw [HZ2.out]; rfl, hb2⟩
end
end Go.Proofs.YtpdhdgdbknnllaaGreatDoor
