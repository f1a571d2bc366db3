/- The parts Uc, Ud, Ue, Kfu, Uf, Ac, Lh, Ya of the proof, joined. It holds without conditions of its own. -/
import Derived.Test.YtdpiemgdenfkoaaGreatDoorFM14
import Derived.Test.YtdpiemgdenfkoaaGreatDoorFM12
import Derived.Deep.Cut
import Derived.Test.YtdpiemgdenfkoaaGreatDoorFM4
import Derived.Test.YtdpiemgdenfkoaaGreatDoorFM11
import Derived.Test.YtdpiemgdenfkoaaGreatDoorFM8
import Derived.Shelf.RegionOpen
import Derived.Test.YtdpiemgdenfkoaaGreatDoorFM3
/- Whether a piece of the watermark is in a leaf. -/
namespace Go.Proofs.YtdpiemgdenfkoaaGreatDoor
set_option linter.unusedSimpArgs false
set_option linter.unusedVariables false
open Go Go.RowKit Go.Sort Go.BigFrame

def touchB (c n q : Int) : Bool := decide (4 * c ≤ q * n) && decide (q * n ≤ 4 * (c + 1))
noncomputable def touchOk (c n q : Int) : Bool := match evCall Tryz.prog 100000 0 86 [.lit (.int .i64 c), .lit (.int .i64 n), .lit (.int .i64 q)] h01 with
  | .ok (.lit (.bool b), _) => b == touchB c n q
  | _ => false
def upto16 : List Int := [0, 1, 2, 3, 4, 5, 6, 7, 8, 9, 10, 11, 12, 13, 14, 15]
def pows : List Int := [1, 2, 4, 8, 16]
theorem touch_all : (upto16.all fun c => pows.all fun n => [1, 2, 3].all fun q => touchOk c n q) = true := by kernel_rfl
theorem touches_any (c n q : Int) (hc : c ∈ upto16) (hn : n ∈ pows) (hq : q ∈ ([1, 2, 3] : List Int)) (W : World) :
    Calls Tryz.prog 86 #[.int .i64 c, .int .i64 n, .int .i64 q] W fun e w' => e = .returned (.bool (touchB c n q)) ∧ Below W.heap.size W w' := by
  have h := List.all_eq_true.1 (List.all_eq_true.1 (List.all_eq_true.1 touch_all c hc) n hn) q hq
  unfold touchOk at h
  split at h
  · rename_i b h' he
    have := eval_lits (P := Tryz.prog) followsT (fid := 86) (ys := [.int .i64 c, .int .i64 n, .int .i64 q]) (W := W) he
    refine this.mono ?_
    rintro en W' ⟨x, e', rfl, hx, -, hb, -⟩
    rw [VR_lit.1 hx, beq_iff_eq.1 h]
    exact ⟨rfl, hb⟩
  · cases h
theorem upto16_in {c : Nat} (h : c < 16) : (c : Int) ∈ upto16 := by
  unfold upto16
  simp only [List.mem_cons, List.not_mem_nil, or_false]
  omega
/-- Is a piece of the watermark in a leaf? -/
def markB (co ro : Nat) (hf : Nat) (x : Fl) : Bool := touchB x.col co (1 + 2 * hf) && touchB x.row ro 2
def small16B (l : List Fl) : Bool := l.all fun a => decide (a.col < 16) && decide (a.row < 16)
theorem small16_all : ∀ f ∈ allFolds, ∀ n ∈ [1, 2, 3, 4], small16B (leavesF f n false) = true := by decide +kernel
theorem small16_half : ∀ f ∈ allFolds, 2 ≤ f.length → small16B (leavesF f 1 true) = true := by decide +kernel
theorem pows_all : ∀ f ∈ allFolds, ((colsF f : Nat) : Int) ∈ pows ∧ ((rowsF f : Nat) : Int) ∈ pows := by decide +kernel
theorem Fine.small {p : Prs} {m : Mkw} {f : Fmt} (h : Fine p m f) {i : Nat} {a : Fl} (hi : (leavesW m f)[i]? = some a) : a.col < 16 ∧ a.row < 16 := by
  obtain ⟨h1, h2⟩ := h.mem
  have hm := List.mem_of_getElem? hi
  have key : small16B (leavesW m f) = true := by
    unfold leavesW
    cases hh : m.half with
    | false => exact small16_all _ h1 _ h2
    | true =>
      obtain ⟨h3, h4⟩ := h.two hh
      rw [h3]
      exact small16_half _ h1 h4
  have := List.all_eq_true.1 key _ hm
  simpa using this

set_option maxRecDepth 100000 in
set_option maxHeartbeats 1000000 in
theorem marked_any (m : Mkw) (s : Bs) (co ro : Nat) (q : Ppr) (tr : Int) (lv : Value) (ls : List Fl) (g i hf : Nat) (x : Fl) (w : World) (hl : LeavesAt w lv ls g) (hn : ls.length ≤ 1000) (hi : ls[i]? = some x)
    (h1 : x.col < 16) (h2 : x.row < 16) (h3 : (co : Int) ∈ pows) (h4 : (ro : Int) ∈ pows) (h5 : hf ≤ 1) :
    Calls Tryz.prog 58 #[.agg (wayC m s co ro q tr lv), .int .i64 i, .int .i64 hf] w fun e w' => e = .returned (.bool (markB co ro hf x)) ∧ Below w.heap.size w w' := by
  have HL := Lib.hid hl
  obtain ⟨k7, rest, rfl, -⟩ := hl
  obtain ⟨n7, hn7⟩ : ∃ n, n = ls.length := ⟨_, rfl⟩
  rw [← hn7] at HL hn ⊢
  have hi7 : i < n7 := by rw [hn7]; exact (List.getElem?_eq_some_iff.1 hi).1
  have hb0 : Below w.heap.size w (w.alloc (.cells (wayC m s co ro q tr (.slice (some ⟨g, 0, none⟩) n7 (n7 + k7))) 107)) := (Below.refl _ _).alloc (Nat.le_refl _) _
  have hc1 : (w.alloc (.cells (wayC m s co ro q tr (.slice (some ⟨g, 0, none⟩) n7 (n7 + k7))) 107)).heap[w.heap.size]? = some (.cells (wayC m s co ro q tr (.slice (some ⟨g, 0, none⟩) n7 (n7 + k7))) 107 (0, 0)) := by exact (by repeat (first | exact heap_alloc_at _ _ _ (by (first | omega | (simp; done) | (simp; omega) | (simp at *; omega) | fail)) | assumption | rw [heap_alloc_past _ _ _ (by (first | omega | (simp; done) | (simp; omega) | (simp at *; omega) | fail))] | rw [heap_setCell_past _ _ _ _ (by (first | omega | (simp; done) | (simp; omega) | (simp at *; omega) | fail))] | fail))
  obtain ⟨x0, x1, x2, x3, x4⟩ := leaf_cells (HL.out.later hb0) hi
  have H1 := Lib.hid (upto16_in h1)
  have H2 := Lib.hid (upto16_in h2)
  have H3 := Lib.hid h3
  have H4 := Lib.hid h4
  have H5 : Hid ((1 : Int) + 2 * (hf : Int) ∈ ([1, 2, 3] : List Int)) := Lib.hid (by simp; omega)
  obtain ⟨z, hz⟩ : ∃ z, z = markB co ro hf x := ⟨_, rfl⟩
  rw [← hz]
  have HZ := Lib.hid hz
  clear hz hn7 hi HL h1 h2 h3 h4
  go_enter Tryz.func58, Tryz.ntmps58
  go_wp2_with fail
  have hs1 : (w.alloc (.cells (wayC m s co ro q tr (.slice (some ⟨g, 0, none⟩) n7 (n7 + k7))) 107)).heap.size = w.heap.size + 1 := by simp
  revert hb0 hc1 x0 x1 x2 x3 x4 hs1
  generalize (w.alloc (.cells (wayC m s co ro q tr (.slice (some ⟨g, 0, none⟩) n7 (n7 + k7))) 107)) = w1
  intro hb0 hc1 x0 x1 x2 x3 x4 hs1
  have HS1 := Lib.hid hs1
  clear hs1
  have d5 := blk_cell hc1 5
  have d6 := blk_cell hc1 6
  have d13 := blk_cell hc1 13
  go_wp2_with fail
  obtain ⟨z1, hz1⟩ : ∃ z, z = touchB x.col co (1 + 2 * (hf : Int)) := ⟨_, rfl⟩
  obtain ⟨z2, hz2⟩ : ∃ z, z = touchB x.row ro 2 := ⟨_, rfl⟩
  have HZ2 : Hid (z = (z1 && z2)) := Lib.hid (by rw [HZ.out, hz1, hz2]; rfl)
  have hb2 : Below w.heap.size w (w1.alloc (.cells #[.int .i64 x.sheet, .int .i64 x.col, .int .i64 x.row, .bool x.inner, .bool x.turned] 57)) := hb0.alloc hb0.size _
  have bx : (w1.alloc (.cells #[.int .i64 x.sheet, .int .i64 x.col, .int .i64 x.row, .bool x.inner, .bool x.turned] 57)).heap[w1.heap.size]? = some (.cells #[.int .i64 x.sheet, .int .i64 x.col, .int .i64 x.row, .bool x.inner, .bool x.turned] 57 (0, 0)) := World.alloc_heap_new _ _
  have hc2 : (w1.alloc (.cells #[.int .i64 x.sheet, .int .i64 x.col, .int .i64 x.row, .bool x.inner, .bool x.turned] 57)).heap[w.heap.size]? = some (.cells (wayC m s co ro q tr (.slice (some ⟨g, 0, none⟩) n7 (n7 + k7))) 107 (0, 0)) := (heap_alloc_past _ _ _ (blk_lt hc1)).trans hc1
  clear x0 x1 x2 x3 x4 d5 d6 d13 hc1 hb0
  refine (touches_any _ _ _ H1.out H3.out H5.out _).mono ?_
  rintro e w9 ⟨rfl, hb⟩
  rw [← hz1]
  clear hz1
  replace hb2 := hb2.trans (hb.mono hb2.size)
  have d6 := blk_cell (blk_later hb hc2) 6
  have p2 := blk_cell (blk_later hb bx) 2
  rw [HS1.out] at p2
  clear hc2 bx hb
  cases z1 with
  | false =>
    go_wp2_with fail
    go_ret
    exact ⟨by rw [HZ2.out]; rfl, hb2⟩
  | true =>
    go_wp2_with fail
    refine (touches_any _ _ _ H2.out H4.out (by simp) _).mono ?_
    rintro e w9 ⟨rfl, hb⟩
    rw [← hz2]
    clear hz2
    replace hb2 := hb2.trans (hb.mono hb2.size)
    clear hb
    go_wp2_with fail
    go_ret
    exact ⟨by rw [HZ2.out]; rfl, hb2⟩
end Go.Proofs.YtdpiemgdenfkoaaGreatDoor

/- Marked, of a way of making and halves without an error. -/
namespace Go.Proofs.YtdpiemgdenfkoaaGreatDoor
set_option linter.unusedSimpArgs false
set_option linter.unusedVariables false
open Go Go.RowKit Go.Sort Go.BigFrame

/-- Is the leaf with a number marked? -/
def markAt (ls : List Fl) (co ro : Nat) (hs : List Nat) (i : Nat) : Bool := match ls[i]? with
  | some a => markB co ro (hs.getD a.sheet 0) a
  | none => false
def marksF (ls : List Fl) (co ro : Nat) (hs : List Nat) : List Nat := (List.range ls.length).filter (markAt ls co ro hs)

set_option maxRecDepth 100000 in
set_option maxHeartbeats 4000000 in
theorem Marked_any (p : Prs) (m : Mkw) (f : Fmt) (ls : List Fl) (hs : List Nat) (v vp : Value) (w : World) (hp : PrsAt w.heap.size w vp p) (he : errP p = 0) (hm : mkwErr p m = 0)
    (hf : p.fmts[m.fmt.toNat]? = some f) (hls : ls = leavesW m f) (hv : IntsAt w v (hs.map fun (n : Nat) => (n : Int))) (hlen : hs.length = m.sheets.toNat) (h01 : ∀ h ∈ hs, h ≤ 1) :
    Calls Tryz.prog 22 #[vp, mkwV m, v] w fun e w' => (∃ v', e = .returned (.tuple #[v', .int .i64 0]) ∧ IntsAt w' v' ((marksF ls (colsF (fdsB f.folds)) (rowsF (fdsB f.folds)) hs).map fun (n : Nat) => (n : Int))) ∧ Below w.heap.size w w' := by
  have HP := Lib.hid hp
  have HE := Lib.hid he
  have HM := Lib.hid hm
  have HF0 := Lib.hid hf
  have FN := Lib.hid (fine_of he hm hf)
  have HLS := Lib.hid hls
  have HV := Lib.hid hv
  obtain ⟨fv, pv, rfl, ⟨a, cap, rfl, -⟩, ⟨a2, cap2, rfl, -⟩, -⟩ := hp
  obtain ⟨n1, hn1⟩ : ∃ n, n = p.fmts.length := ⟨_, rfl⟩
  obtain ⟨n2, hn2⟩ : ∃ n, n = p.pprs.length := ⟨_, rfl⟩
  rw [← hn1, ← hn2] at HP ⊢
  clear hn1 hn2 he hm hf hls
  have hs1 := FN.out.sh1
  have hs4 := FN.out.sh4
  obtain ⟨av, capv, rfl, hcv⟩ := hv
  obtain ⟨gh, rfl, hgh, hch⟩ := hcv (by intro e; rw [List.map_eq_nil_iff] at e; rw [e] at hlen; simp at hlen; omega)
  have HCH := Lib.hid hch
  rw [List.length_map] at HV ⊢
  obtain ⟨n6, hn6⟩ : ∃ n, n = hs.length := ⟨_, rfl⟩
  have HN6 := Lib.hid hn6
  rw [← hn6] at HV hlen ⊢
  have hms : m.sheets = (n6 : Int) := by omega
  have HMS := Lib.hid hms
  have hx6 : n6 ≤ 4 := by omega
  obtain ⟨co, hco⟩ : ∃ c : Nat, c = colsF (fdsB f.folds) := ⟨_, rfl⟩
  obtain ⟨ro, hro⟩ : ∃ c : Nat, c = rowsF (fdsB f.folds) := ⟨_, rfl⟩
  have hpw := pows_all _ FN.out.mem.1
  rw [← hco, ← hro] at hpw ⊢
  have HPW := Lib.hid hpw
  have HCO := Lib.hid hco
  have HRO := Lib.hid hro
  have H01 := Lib.hid h01
  obtain ⟨n7, hn7⟩ : ∃ n, n = ls.length := ⟨_, rfl⟩
  have HN7 := Lib.hid hn7
  have hn64 : n7 ≤ 64 := by
    have := FN.out.count
    rw [← HLS.out, ← hn7] at this
    exact this.2
  unfold marksF
  rw [← hn7]
  clear hn7 hco hro hpw hms hn6 hlen hcv hch hs1 hs4 h01
  obtain ⟨ei, hi1, hi2, hi3, hi4⟩ := elemInt
  have HI := Lib.hid (And.intro hi1 (And.intro hi2 (And.intro hi3 hi4)))
  clear hi1 hi2 hi3 hi4
  go_enter Tryz.func22, Tryz.ntmps22
  go_wp2_with fail
  refine (openWay_any p m _ _ (HP.out.later (by exact (by repeat (first | exact Below.refl _ _ | assumption | (refine Below.alloc ?_ ?_ _; rotate_left; · (first | omega | (simp; done) | (simp; omega) | fail)) | (refine Below.setCell ?_ ?_ _; rotate_left; · (first | omega | (simp; done) | (simp; omega) | fail)) | refine Below.drew ?_ | fail)))) HE.out HM.out).mono ?_
  rintro e w2 ⟨⟨f', q, lv, g, hfx, hqx, rfl, hl, hg⟩, hb⟩
  obtain rfl : f' = f := Option.some.inj (hfx.symm.trans HF0.out)
  rw [show leavesF (fdsB f'.folds) m.sheets.toNat m.half = ls from HLS.out.symm] at hl
  rw [← HCO.out, ← HRO.out]
  have hb0 : Below w.heap.size w w2 := Below.trans (by exact (by repeat (first | exact Below.refl _ _ | assumption | (refine Below.alloc ?_ ?_ _; rotate_left; · (first | omega | (simp; done) | (simp; omega) | fail)) | (refine Below.setCell ?_ ?_ _; rotate_left; · (first | omega | (simp; done) | (simp; omega) | fail)) | refine Below.drew ?_ | fail))) (hb.mono (by simp; try omega))
  have HL := Lib.hid hl
  obtain ⟨k7, rest, rfl, -⟩ := hl
  rw [← HN7.out] at HL ⊢
  have hz2 := hb0.size
  clear hfx hqx hb hg
  have hb1 : Below w.heap.size w (w2.alloc (.cells (wayC m f'.folds co ro q p.trim (.slice (some ⟨g, 0, none⟩) n7 (n7 + k7))) 107)) := hb0.alloc hz2 _
  have hc1 : (w2.alloc (.cells (wayC m f'.folds co ro q p.trim (.slice (some ⟨g, 0, none⟩) n7 (n7 + k7))) 107)).heap[w2.heap.size]? = some (.cells (wayC m f'.folds co ro q p.trim (.slice (some ⟨g, 0, none⟩) n7 (n7 + k7))) 107 (0, 0)) := World.alloc_heap_new _ _
  have HL1 := Lib.hid (HL.out.later ((Below.refl _ _).alloc (Nat.le_refl _) (.cells (wayC m f'.folds co ro q p.trim (.slice (some ⟨g, 0, none⟩) n7 (n7 + k7))) 107)))
  have hz3 : w2.heap.size < (w2.alloc (.cells (wayC m f'.folds co ro q p.trim (.slice (some ⟨g, 0, none⟩) n7 (n7 + k7))) 107)).heap.size := by simp
  have e1 : ((n6 : Int) != m.sheets) = false := by rw [HMS.out]; simp
  go_upto_region 4 with fail
  dsimp only [wayC] at hb1 hc1 HL1 hz3
  revert hb1 hc1 HL1 hz3
  generalize (w2.alloc (.cells #[.int .i64 m.fmt, .int .i64 m.ppr, .int .i64 m.sheets, .bool m.half, S f'.folds, .int .i64 co, .int .i64 ro, S q.name, .int .i64 q.wlo, .int .i64 q.whi, .int .i64 q.hlo, .int .i64 q.hhi, .int .i64 p.trim, .slice (some ⟨g, 0, none⟩) n7 (n7 + k7)] 107)) = w1
  intro hb1 hc1 HL1 hz3
  clear HL hb0
  have HV1 := Lib.hid (HV.out.later (show Below w.heap.size w w1 from hb1))
  have d2 := blk_cell hc1 2
  have d13 := blk_cell hc1 13
  go_wp2_with fail
  have hWI := within_list 0 1 (hs.map fun (n : Nat) => (n : Int)) gh capv w1 (fun i x hx => cell_later' hb1 (HCH.out i x hx)) (by rw [List.length_map, ← HN6.out]; omega)
  rw [List.length_map, ← HN6.out, show (hs.map fun (n : Nat) => (n : Int)).all (inI 0 1) = true from List.all_eq_true.2 fun x hx => by
    obtain ⟨h, hh, rfl⟩ := List.mem_map.1 hx
    have := H01.out h hh
    unfold inI
    rw [decide_eq_true (p := (0 : Int) ≤ h) (by omega), decide_eq_true (p := (h : Int) ≤ 1) (by omega)]
    rfl] at hWI
  refine hWI.mono ?_
  rintro e w9 ⟨rfl, h9⟩
  obtain rfl := h9.symm
  clear hWI h9
  go_wp2_with fail
  clear d2 d13 e1
  have hs9 : w.heap.size ≤ w1.heap.size := by have := hb1.size; omega
  go_loopw [10, 34] (fun v j wr => ∃ (k : Nat), k ≤ n7 ∧ j = .int .i64 k ∧ Hid (wr.ownsRow w1.heap.size 3 1 v ((List.range k).filter (markAt ls co ro hs)).length (intVs ((List.range k).filter (markAt ls co ro hs)))) ∧ Hid (Below w1.heap.size w1 wr)) (fun _ j _ => n7 - (intOf j).toNat)
  case atStart => exact ⟨0, by omega, rfl, World.ownsRow_nil _ _ _ _, Below.refl _ _⟩
  case round =>
    obtain ⟨k, hk, rfl, HR, HB⟩ := hrel
    have hz := HB.out.size
    by_cases hlt : k < n7
    · obtain ⟨x, hx⟩ : ∃ x, ls[k]? = some x := ⟨_, List.getElem?_eq_getElem (by have := HN7.out; omega)⟩
      have HX := Lib.hid hx
      clear hx
      have hx2 : (leavesW m f')[k]? = some x := by rw [← HLS.out]; exact HX.out
      have HSM := Lib.hid (FN.out.small hx2)
      have hsx : x.sheet < n6 := by
        have := FN.out.sheet hx2
        have := HMS.out
        omega
      obtain ⟨h, hh⟩ : ∃ h, hs[x.sheet]? = some h := ⟨_, List.getElem?_eq_getElem (by rw [← HN6.out]; exact hsx)⟩
      have HH1 := Lib.hid (H01.out h (List.mem_of_getElem? hh))
      have HM2 : Hid (markAt ls co ro hs k = markB co ro h x) := Lib.hid (by
        unfold markAt
        rw [HX.out]
        show markB co ro (hs.getD x.sheet 0) x = _
        rw [List.getD_eq_getElem?_getD, hh]; rfl)
      have q6 := cell_later' HB.out (cell_later' hb1 (HCH.out x.sheet (h : Int) (by rw [List.getElem?_map, hh]; rfl)))
      have HQ6 := Lib.hid q6
      clear hx2 hh q6
      obtain ⟨x0, x1, x2, x3, x4⟩ := leaf_cells (HL1.out.later HB.out) HX.out
      go_wp2_with fail
      obtain ⟨w2, hw2⟩ : ∃ w2, w2 = (wr.alloc (.cells #[.int .i64 x.sheet, .int .i64 x.col, .int .i64 x.row, .bool x.inner, .bool x.turned] 57)) := ⟨_, rfl⟩
      have hb2 : Below w1.heap.size w1 w2 := by rw [hw2]; exact HB.out.alloc (by omega) _
      have hz2 : w1.heap.size ≤ w2.heap.size := hb2.size
      have bx : w2.heap[wr.heap.size]? = some (.cells #[.int .i64 x.sheet, .int .i64 x.col, .int .i64 x.row, .bool x.inner, .bool x.turned] 57 (0, 0)) := by rw [hw2]; exact (by repeat (first | exact heap_alloc_at _ _ _ (by (first | omega | (simp; done) | (simp; omega) | (simp at *; omega) | fail)) | assumption | rw [heap_alloc_past _ _ _ (by (first | omega | (simp; done) | (simp; omega) | (simp at *; omega) | fail))] | rw [heap_setCell_past _ _ _ _ (by (first | omega | (simp; done) | (simp; omega) | (simp at *; omega) | fail))] | fail))
      have q6 : w2.cell? ⟨gh, x.sheet, none⟩ = some (.int .i64 h) := by rw [hw2]; exact cell_later' ((Below.refl _ _).alloc (Nat.le_refl _) _) HQ6.out
      have HR2 := Lib.hid (show w2.ownsRow w1.heap.size 3 1 _ _ _ by rw [hw2]; exact HR.out.alloc _)
      have HL2 := Lib.hid (HL1.out.later hb2)
      have bw := blk_later hb2 hc1
      rw [← hw2]
      clear hw2 x0 x1 x2 x3 x4 HQ6
      have p0 := cell_regrown (blk_cell bx 0)
      have qh := cell_regrown q6
      have t0 := cell_regrown (blk_cell bw 0)
      have t1 := cell_regrown (blk_cell bw 1)
      have t2 := cell_regrown (blk_cell bw 2)
      have t3 := cell_regrown (blk_cell bw 3)
      have t4 := cell_regrown (blk_cell bw 4)
      have t5 := cell_regrown (blk_cell bw 5)
      have t6 := cell_regrown (blk_cell bw 6)
      have t7 := cell_regrown (blk_cell bw 7)
      have t8 := cell_regrown (blk_cell bw 8)
      have t9 := cell_regrown (blk_cell bw 9)
      have t10 := cell_regrown (blk_cell bw 10)
      have t11 := cell_regrown (blk_cell bw 11)
      have t12 := cell_regrown (blk_cell bw 12)
      have t13 := cell_regrown (blk_cell bw 13)
      have cT : ∀ tb : Bool, markB co ro h x = tb → ∀ d' os, Calls Tryz.prog 58 #[.agg (wayC m f'.folds co ro q p.trim (.slice (some ⟨g, 0, none⟩) n7 (n7 + k7))), .int .i64 k, .int .i64 h] (grow (redrawn w2 d') os) (fun e w'' => e = .returned (.bool tb) ∧ ∃ p : Regrown, w'' = grow (redrawn w2 p.d) p.os) := fun tb htb d' os => Calls.regrown_of (by rw [← htb]; exact marked_any m f'.folds co ro q p.trim _ ls g k h x _ (HL2.out.later (below_regrown w2 d' os)) (by have := HN7.out; omega) HX.out HSM.out.1 HSM.out.2 HPW.out.1 HPW.out.2 HH1.out)
      clear bx bw q6
      cases hmb : markB co ro h x with
      | true =>
        have HF := Lib.hid (show markAt ls co ro hs k = true by rw [HM2.out, hmb])
        have c1 := cT true hmb
        clear cT hmb HM2
        refine wp_region_quiet_below (by kernel_rfl) (by kernel_rfl) ?_; (repeat (go_big_quiet_step (with_reducible exact c1 _ _))); refine wpQuiet_nil ?_; rintro w3 ⟨⟨d3, os3⟩, rfl⟩
        have HR3 := Lib.hid (row_later HR2.out (below_regrown w2 d3 os3))
        have HB3 := Lib.hid (hb2.trans ((below_regrown w2 d3 os3).mono hz2))
        have hrl := range_filter_len (markAt ls co ro hs) k
        clear p0 qh t0 t1 t2 t3 t4 t5 t6 t7 t8 t9 t10 t11 t12 t13 c1
        dsimp only
        generalize grow (redrawn w2 d3) os3 = w3 at *
        obtain ⟨hi1, hi2, hi3, hi4⟩ := HI.out
        have hz3 := HB3.out.size
        go_wp2_with (at_builtin; (refine wpList_append_own _ rfl _ _ 39 rfl w1.heap.size 3 ei _ 1 8 undInts hi1 hi2 hi3 hi4 rfl (by decide) u10 ((List.range k).filter (markAt ls co ro hs)).length (intVs ((List.range k).filter (markAt ls co ro hs))) rfl (HR3.out.alloc _) ⟨w3.heap.size, 0, none⟩ 1 1 [.int .i64 k] rfl rfl ?a1 ?b1 ?c1 ?d1 ?e1 ?f1))
        case a1 =>
          intro j u hju
          rw [add_offi]
          unfold World.cell?
          rw [World.alloc_heap_new]
          simpa using hju
        case b1 => simp [Value.oneCell']
        case c1 => simp only [maxLen]; omega
        case d1 => omega
        case e1 => (first | omega | (simp; omega))
        case f1 =>
          rintro v' w7 hown hgrow -
          have HB7 := Lib.hid (HB3.out.trans ((((Below.refl _ w3).alloc (Nat.le_refl _) (.cells #[.int .i64 k] 3)).mono hz3).trans (below_row (HR3.out.alloc _) (by simp; omega) hgrow)))
          have HO := Lib.hid hown
          clear hgrow hown hi1 hi2 hi3 hi4
          go_wp2_with fail
          go_roundw
          case rel => exact ⟨k + 1, by omega, by go_num, (by
            show World.ownsRow _ _ _ _ _ _ _
            rw [range_filter_yes HF.out]
            have h := HO.out
            simpa [intVs] using h), HB7.out⟩
          case measure => simp [intOf]; omega
      | false =>
        have HF := Lib.hid (show markAt ls co ro hs k = false by rw [HM2.out, hmb])
        have c1 := cT false hmb
        clear cT hmb HM2
        refine wp_region_quiet_below (by kernel_rfl) (by kernel_rfl) ?_; (repeat (go_big_quiet_step (with_reducible exact c1 _ _))); refine wpQuiet_nil ?_; rintro w3 ⟨⟨d3, os3⟩, rfl⟩
        have HR3 := Lib.hid (row_later HR2.out (below_regrown w2 d3 os3))
        have HB3 := Lib.hid (hb2.trans ((below_regrown w2 d3 os3).mono hz2))
        clear p0 qh t0 t1 t2 t3 t4 t5 t6 t7 t8 t9 t10 t11 t12 t13 c1
        dsimp only
        generalize grow (redrawn w2 d3) os3 = w3 at *
        go_wp2_with fail
        go_roundw
        case rel => exact ⟨k + 1, by omega, by go_num, (by show World.ownsRow _ _ _ _ _ _ _; rw [range_filter_no HF.out]; exact HR3.out), HB3.out⟩
        case measure => simp [intOf]; omega
    · obtain rfl : k = n7 := by omega
      go_wp2_with fail
      go_ret2
      exact ⟨⟨_, rfl, ints_of_row HR.out⟩, (by exact Below.trans hb1 (HB.out.mono (by omega)))⟩
end Go.Proofs.YtdpiemgdenfkoaaGreatDoor

/- The law's turns and halves. -/
namespace Go.Proofs.YtdpiemgdenfkoaaGreatDoor
set_option linter.unusedSimpArgs false
set_option linter.unusedVariables false
open Go Go.RowKit Go.Sort Go.BigFrame

/-- A slice of small numbers. -/
def U16sAt (W : World) (v : Value) (xs : List Nat) : Prop :=
  ∃ (a : Option Addr) (cap : Nat), v = .slice a xs.length cap ∧ (∀ x ∈ xs, x < 65536) ∧ (xs ≠ [] → ∃ b off, a = some ⟨b, off, none⟩ ∧ b < W.heap.size ∧ ∀ (i x : Nat), xs[i]? = some x → W.cell? ⟨b, off + i, none⟩ = some (.int .u16 (x : Int)))
theorem U16sAt.later {W W' : World} {v : Value} {xs : List Nat} (h : U16sAt W v xs) (hb : Below W.heap.size W W') : U16sAt W' v xs := by
  obtain ⟨a, cap, e, h0, hc⟩ := h
  refine ⟨a, cap, e, h0, fun hne => ?_⟩
  obtain ⟨b, off, h1, h2, h3⟩ := hc hne
  exact ⟨b, off, h1, Nat.lt_of_lt_of_le h2 hb.size, fun i x hx => cell_later' hb (h3 i x hx)⟩
def turnN (xs : List Nat) (n : Nat) : Nat := if xs.length = 0 then 0 else xs.getD (n % xs.length) 0
theorem turnN_lt {W : World} {v : Value} {xs : List Nat} (h : U16sAt W v xs) (n : Nat) : turnN xs n < 65536 := by
  obtain ⟨a, cap, -, h0, -⟩ := h
  unfold turnN
  split
  · omega
  · rename_i hne
    have hlt : n % xs.length < xs.length := Nat.mod_lt _ (by omega)
    rw [List.getD_eq_getElem?_getD, List.getElem?_eq_getElem hlt]
    exact h0 _ (List.getElem_mem hlt)

set_option maxRecDepth 100000 in
set_option maxHeartbeats 1000000 in
theorem turn_any (xs : List Nat) (v : Value) (n : Nat) (w : World) (hv : U16sAt w v xs) :
    Calls Tryz.prog 61 #[v, .int .i64 n] w fun e w' => e = .returned (.int .i64 (turnN xs n)) ∧ w' = w := by
  have HV := Lib.hid hv
  obtain ⟨a, cap, rfl, hx16, hc⟩ := hv
  have HX16 := Lib.hid hx16
  have HC := Lib.hid hc
  obtain ⟨N, hN⟩ : ∃ N, N = xs.length := ⟨_, rfl⟩
  rw [← hN]
  have HN := Lib.hid hN
  clear hc hN hx16
  by_cases h0 : N = 0
  · have HT : Hid (turnN xs n = 0) := Lib.hid (by unfold turnN; rw [if_pos (by rw [← HN.out]; exact h0)])
    subst h0
    go_enter Tryz.func61, Tryz.ntmps61
    go_wp2_with fail
    go_ret
    exact ⟨by rw [HT.out]; rfl, rfl⟩
  · have hlt : n % N < N := Nat.mod_lt _ (by omega)
    obtain ⟨x, hx⟩ : ∃ x, xs[n % N]? = some x := ⟨_, List.getElem?_eq_getElem (by rw [← HN.out]; exact hlt)⟩
    have HT : Hid (turnN xs n = x) := Lib.hid (by unfold turnN; rw [if_neg (by rw [← HN.out]; exact h0), ← HN.out, List.getD_eq_getElem?_getD, hx]; rfl)
    obtain ⟨b, off, rfl, hb, hcc⟩ := HC.out (fun e => by rw [e] at hx; cases hx)
    have q0 := hcc _ _ hx
    have e0 : ((N : Int) == 0) = false := by simp; omega
    have e1 : (n : Int) % (N : Int) = ((n % N : Nat) : Int) := (Int.natCast_emod _ _).symm
    obtain ⟨j, hj⟩ : ∃ j, j = n % N := ⟨_, rfl⟩
    rw [← hj] at hlt q0 e1
    have h16 : x < 65536 := HX16.out x (List.mem_of_getElem? hx)
    clear hx hcc hj
    go_enter Tryz.func61, Tryz.ntmps61
    go_wp2_with fail
    go_ret
    exact ⟨by rw [HT.out]; rfl, rfl⟩

def halvesN (xs : List Nat) (n : Nat) : List Nat := (List.range n).map fun i => turnN xs i % 2
theorem halvesN_succ (xs : List Nat) (n : Nat) : halvesN xs (n + 1) = halvesN xs n ++ [turnN xs n % 2] := by simp [halvesN, List.range_succ]
theorem halvesN_len (xs : List Nat) (n : Nat) : (halvesN xs n).length = n := by simp [halvesN]
theorem halvesN_le {xs : List Nat} {n h : Nat} (hh : h ∈ halvesN xs n) : h ≤ 1 := by
  obtain ⟨i, -, rfl⟩ := List.mem_map.1 hh
  omega

set_option maxRecDepth 100000 in
set_option maxHeartbeats 2000000 in
theorem halves_any (m : Mkw) (xs : List Nat) (v : Value) (w : World) (hv : U16sAt w v xs) (h0 : 1 ≤ m.sheets) (h4 : m.sheets ≤ 4) :
    Calls Tryz.prog 27 #[mkwV m, v] w fun e w' => (∃ v', e = .returned v' ∧ w'.ownsRow w.heap.size 3 1 v' (halvesN xs m.sheets.toNat).length (intVs (halvesN xs m.sheets.toNat))) ∧ Below w.heap.size w w' := by
  have HV := Lib.hid hv
  obtain ⟨S', hS⟩ : ∃ s, s = m.sheets.toNat := ⟨_, rfl⟩
  have hms : m.sheets = (S' : Int) := by omega
  have HMS := Lib.hid hms
  rw [← hS]
  have hS4 : S' ≤ 4 := by omega
  obtain ⟨ei, hi1, hi2, hi3, hi4⟩ := elemInt
  have HI := Lib.hid (And.intro hi1 (And.intro hi2 (And.intro hi3 hi4)))
  clear hi1 hi2 hi3 hi4 hms hS h0 h4
  obtain ⟨a, cap, rfl, -, -⟩ := hv
  obtain ⟨N, hN⟩ : ∃ N, N = xs.length := ⟨_, rfl⟩
  rw [← hN] at HV ⊢
  have HN := Lib.hid hN
  clear hN
  have hb0 : Below w.heap.size w (w.alloc (.cells #[.int .i64 m.fmt, .int .i64 m.ppr, .int .i64 m.sheets, .bool m.half] 38)) := (Below.refl _ _).alloc (Nat.le_refl _) _
  have hc1 : (w.alloc (.cells #[.int .i64 m.fmt, .int .i64 m.ppr, .int .i64 m.sheets, .bool m.half] 38)).heap[w.heap.size]? = some (.cells #[.int .i64 m.fmt, .int .i64 m.ppr, .int .i64 m.sheets, .bool m.half] 38 (0, 0)) := World.alloc_heap_new _ _
  go_enter Tryz.func27, Tryz.ntmps27
  go_wp2_with fail
  revert hb0 hc1
  generalize (w.alloc (.cells #[.int .i64 m.fmt, .int .i64 m.ppr, .int .i64 m.sheets, .bool m.half] 38)) = w1
  intro hb0 hc1
  have HV1 := Lib.hid (HV.out.later hb0)
  have hs9 : w.heap.size ≤ w1.heap.size := hb0.size
  go_loopw [5, 6] (fun v j wr => ∃ (k : Nat), k ≤ S' ∧ j = .int .i64 k ∧ Hid (wr.ownsRow w1.heap.size 3 1 v (halvesN xs k).length (intVs (halvesN xs k))) ∧ Hid (Below w1.heap.size w1 wr)) (fun _ j _ => S' - (intOf j).toNat)
  case atStart => exact ⟨0, by omega, rfl, World.ownsRow_nil _ _ _ _, Below.refl _ _⟩
  case round =>
    obtain ⟨k, hk, rfl, HR, HB⟩ := hrel
    have hz := HB.out.size
    have bw := blk_later HB.out hc1
    have t2 := blk_cell bw 2
    rw [HMS.out] at t2
    by_cases hlt : k < S'
    · go_wp2_with fail
      refine (turn_any xs _ k _ (HV1.out.later HB.out)).mono ?_
      rintro e w9 ⟨rfl, h9⟩
      obtain rfl := h9.symm
      clear h9
      have hlen := halvesN_len xs k
      obtain ⟨T, hT⟩ : ∃ T, T = turnN xs k := ⟨_, rfl⟩
      have hTl : T < 65536 := by rw [hT]; exact turnN_lt HV.out k
      rw [← hT]
      have HT := Lib.hid hT
      have em : (T : Int) % 2 = ((T % 2 : Nat) : Int) := (Int.natCast_emod _ _).symm
      obtain ⟨h, hh⟩ : ∃ h, h = T % 2 := ⟨_, rfl⟩
      rw [← hh] at em
      have HH := Lib.hid hh
      clear hT hh
      obtain ⟨hi1, hi2, hi3, hi4⟩ := HI.out
      go_wp2_with (at_builtin; (refine wpList_append_own _ rfl _ _ 39 rfl w1.heap.size 3 ei _ 1 8 undInts hi1 hi2 hi3 hi4 rfl (by decide) u5 (halvesN xs k).length (intVs (halvesN xs k)) rfl (HR.out.alloc _) ⟨wr.heap.size, 0, none⟩ 1 1 [.int .i64 h] rfl rfl ?a1 ?b1 ?c1 ?d1 ?e1 ?f1))
      case a1 =>
        intro j u hju
        rw [add_offi]
        unfold World.cell?
        rw [World.alloc_heap_new]
        simpa using hju
      case b1 => simp [Value.oneCell']
      case c1 => simp only [maxLen]; omega
      case d1 => omega
      case e1 => (first | omega | (simp; omega))
      case f1 =>
        rintro v' w7 hown hgrow -
        have HB7 := Lib.hid (HB.out.trans ((((Below.refl _ wr).alloc (Nat.le_refl _) (.cells #[.int .i64 h] 3)).mono hz).trans (below_row (HR.out.alloc _) (by simp; omega) hgrow)))
        have HO := Lib.hid hown
        clear hgrow hown hi1 hi2 hi3 hi4 t2
        go_wp2_with fail
        go_roundw
        case rel => exact ⟨k + 1, by omega, by go_num, (by
          show World.ownsRow _ _ _ _ _ _ _
          rw [halvesN_succ]
          have h := HO.out
          rw [← HT.out, ← HH.out]
          simpa [intVs, halvesN_len] using h), HB7.out⟩
        case measure => simp [intOf]; omega
    · obtain rfl : k = S' := by omega
      go_wp2_with fail
      go_ret
      exact ⟨⟨_, rfl, row_mono HR.out (by omega)⟩, (by exact Below.trans hb0 (HB.out.mono (by omega)))⟩
end Go.Proofs.YtdpiemgdenfkoaaGreatDoor

/- From the statement's data to a slice of small numbers. -/
namespace Go.Proofs.YtdpiemgdenfkoaaGreatDoor
set_option linter.unusedSimpArgs false
set_option linter.unusedVariables false
open Go Go.ChangeShapes Go.WideShapes Go.ChangeAt Go.RowKit

section
variable {H : Type} {enc : TypeId × Value → H} {w : World} {base : Nat} {spare : Nat → Bool} {held : Bool} {fuel : Nat} {x : DataW H × List MemPlace}
set_option maxRecDepth 100000 in
theorem kfu_u16 {cs : List Value} (h : DataW.trod enc Tryz.prog w base spare held fuel 53 cs = some x) : ∃ n : Nat, n < 65536 ∧ cs = [.int .u16 n] := by
  obtain ⟨n, e, _, hw⟩ := DataW.trod_int Tryz.underlying53 h
  subst e
  simp only [Lit.wf, Bool.and_eq_true, decide_eq_true_eq] at hw
  have h1 : IntKind.u16.min = 0 := by decide
  have h2 : IntKind.u16.max = 65535 := by decide
  rw [h1, h2] at hw
  exact ⟨n.toNat, by omega, by rw [show ((n.toNat : Nat) : Int) = n by omega]⟩
set_option maxRecDepth 100000 in
theorem u16s_in {v : Value} {b0 : Nat} (hv : Value.okWide Tryz.prog w .any b0 66 v) (h : DataW.trod enc Tryz.prog w base spare held fuel 66 v.cells.toList = some x) : ∃ xs : List Nat, U16sAt w v xs := by
  have hc1 : Tryz.prog.cellsOf 53 = 1 := by kernel_rfl
  obtain ⟨a0, len, cap0, rfl⟩ := okWide_slice Tryz.underlying66 hv
  obtain ⟨a, cap, zs, e, hz⟩ := kx_slice (α := { n : Nat // n < 65536 }) Tryz.underlying66 (by rw [hc1]; decide) (fun n l => l = [.int .u16 n.1]) (fun n l y hy => by
    obtain ⟨m, h1, h2⟩ := kfu_u16 hy
    exact ⟨⟨m, h1⟩, h2⟩) h
  simp [Value.cells] at e
  obtain ⟨rfl, rfl, rfl⟩ := e
  refine ⟨zs.map (·.1), a0, cap0, by rw [List.length_map], fun y hy => ?_, fun hne => ?_⟩
  · obtain ⟨z, -, rfl⟩ := List.mem_map.1 hy
    exact z.2
  · obtain ⟨b, off, ha, hb, hc⟩ := hz (fun h => hne (by rw [h]; rfl))
    refine ⟨b, off, ha, hb, fun i y hi => ?_⟩
    rw [List.getElem?_map, Option.map_eq_some_iff] at hi
    obtain ⟨z, hz1, rfl⟩ := hi
    obtain ⟨l, _, rfl, h3⟩ := hc i z hz1
    rw [hc1] at h3
    have := h3 0 _ rfl
    simpa using this
end
end Go.Proofs.YtdpiemgdenfkoaaGreatDoor

/- What is known of the leaves in which the watermark is. -/
namespace Go.Proofs.YtdpiemgdenfkoaaGreatDoor
set_option linter.unusedSimpArgs false
set_option linter.unusedVariables false
open Go Go.RowKit Go.Sort Go.BigFrame

theorem mark_other {co ro h : Nat} {x : Fl} (hp : (co : Int) ∈ pows) (hh : h ≤ 1) (k : markB co ro h x = true) : markB co ro (1 - h) x = decide (co = 1) := by
  have hc : co = 1 ∨ co = 2 ∨ co = 4 ∨ co = 8 ∨ co = 16 := by
    unfold pows at hp
    simp only [List.mem_cons, List.not_mem_nil, or_false] at hp
    omega
  have hh : h = 0 ∨ h = 1 := by omega
  unfold markB touchB at k ⊢
  simp only [Bool.and_eq_true, decide_eq_true_eq] at k
  obtain ⟨⟨k1, k2⟩, k3, k4⟩ := k
  rcases hc with rfl | hc
  · rw [decide_eq_true (p := (1 : Nat) = 1) rfl]
    simp only [Bool.and_eq_true, decide_eq_true_eq]
    rcases hh with rfl | rfl
    · exact ⟨⟨by omega, by omega⟩, k3, k4⟩
    · exact ⟨⟨by omega, by omega⟩, k3, k4⟩
  · rw [decide_eq_false (p := co = 1) (by omega), Bool.eq_false_iff]
    intro hk
    simp only [Bool.and_eq_true, decide_eq_true_eq] at hk
    obtain ⟨⟨j1, j2⟩, -⟩ := hk
    rcases hh with rfl | rfl <;> rcases hc with rfl | rfl | rfl | rfl <;> omega
/-- Is a leaf, by its number, of a sheet? -/
def atS (l : List Fl) (s i : Nat) : Bool := match l[i]? with
  | some a => a.sheet == s
  | none => false
def markH (l : List Fl) (co ro h i : Nat) : Bool := match l[i]? with
  | some a => markB co ro h a
  | none => false
def cntB (l : List Fl) (s co ro h : Nat) : Nat := ((List.range l.length).filter fun i => atS l s i && markH l co ro h i).length
def okCnt (half : Bool) (n : Nat) : Bool := n == 1 || n == 2 || n == 4 || n == 0 && half
theorem cnt_all : ∀ f ∈ allFolds, ∀ n ∈ [1, 2, 3, 4], ∀ s ∈ List.range n, ∀ h ∈ [0, 1], okCnt false (cntB (leavesF f n false) s (colsF f) (rowsF f) h) = true := by decide +kernel
theorem cnt_half : ∀ f ∈ allFolds, 2 ≤ f.length → ∀ h ∈ [0, 1], okCnt true (cntB (leavesF f 1 true) 0 (colsF f) (rowsF f) h) = true := by decide +kernel
theorem Fine.cnt {p : Prs} {m : Mkw} {f : Fmt} (k : Fine p m f) {s h : Nat} (hs : s < m.sheets.toNat) (hh : h ≤ 1) : okCnt m.half (cntB (leavesW m f) s (colsF (fdsB f.folds)) (rowsF (fdsB f.folds)) h) = true := by
  obtain ⟨h1, h2⟩ := k.mem
  have h01 : h ∈ [0, 1] := by simp; omega
  unfold leavesW
  cases hf : m.half with
  | false => exact cnt_all _ h1 _ h2 s (List.mem_range.2 hs) h h01
  | true =>
    obtain ⟨h3, h4⟩ := k.two hf
    rw [h3] at hs ⊢
    obtain rfl : s = 0 := by omega
    exact cnt_half _ h1 h4 h h01
theorem cols_one : ∀ f ∈ allFolds, decide (colsF f = 1) = !(f.any fun b => b) := by decide +kernel
/-- Is there an x among the folds? -/
def acrossW (f : Fmt) : Bool := f.folds.any fun c => c == 120
theorem Fine.across {p : Prs} {m : Mkw} {f : Fmt} (k : Fine p m f) : decide (colsF (fdsB f.folds) = 1) = !(acrossW f) := by
  rw [cols_one _ k.mem.1]
  unfold acrossW fdsB
  rw [List.any_map]
  rfl
/-- With the other half of one sheet, the leaves of this sheet are all others, or the same if there is one column. -/
theorem marks_other {p : Prs} {m : Mkw} {f : Fmt} (k : Fine p m f) {ls : List Fl} {hs : List Nat} {s y h : Nat} {x : Fl} (hl : ls = leavesW m f) (hlen : hs.length = m.sheets.toNat) (h01 : ∀ h ∈ hs, h ≤ 1) (hh : hs[s]? = some h)
    (hy : y ∈ marksF ls (colsF (fdsB f.folds)) (rowsF (fdsB f.folds)) hs) (hx : ls[y]? = some x) :
    decide (y ∈ marksF ls (colsF (fdsB f.folds)) (rowsF (fdsB f.folds)) (hs.set s (1 - h))) = !(x.sheet == s && acrossW f) := by
  have hlt := (List.getElem?_eq_some_iff.1 hx).1
  have e1 : markB (colsF (fdsB f.folds)) (rowsF (fdsB f.folds)) (hs.getD x.sheet 0) x = true := by
    have := (List.mem_filter.1 hy).2
    unfold markAt at this
    rw [hx] at this
    exact this
  have e2 : decide (y ∈ marksF ls (colsF (fdsB f.folds)) (rowsF (fdsB f.folds)) (hs.set s (1 - h))) = markB (colsF (fdsB f.folds)) (rowsF (fdsB f.folds)) ((hs.set s (1 - h)).getD x.sheet 0) x := by
    have : (y ∈ marksF ls (colsF (fdsB f.folds)) (rowsF (fdsB f.folds)) (hs.set s (1 - h))) ↔ markB (colsF (fdsB f.folds)) (rowsF (fdsB f.folds)) ((hs.set s (1 - h)).getD x.sheet 0) x = true := by
      unfold marksF
      rw [List.mem_filter, List.mem_range]
      unfold markAt
      rw [hx]
      exact ⟨fun h => h.2, fun h => ⟨hlt, h⟩⟩
    rw [decide_eq_decide.2 this, Bool.decide_coe]
  rw [e2, List.getD_eq_getElem?_getD, List.getElem?_set]
  by_cases hsx : s = x.sheet
  · subst hsx
    have hsl := (List.getElem?_eq_some_iff.1 hh).1
    rw [if_pos rfl, if_pos hsl]
    rw [List.getD_eq_getElem?_getD, hh] at e1
    show markB _ _ (1 - h) x = _
    rw [mark_other (pows_all _ k.mem.1).1 (h01 h (List.mem_of_getElem? hh)) e1, k.across]
    simp
  · rw [if_neg hsx, ← List.getD_eq_getElem?_getD, e1]
    have : (x.sheet == s) = false := beq_eq_false_iff_ne.2 fun e => hsx e.symm
    rw [this]
    rfl
/-- How many leaves of a sheet are marked. -/
theorem marks_cnt {ls : List Fl} {co ro : Nat} {hs : List Nat} {s h : Nat} (hh : hs[s]? = some h) : ((marksF ls co ro hs).filter (atS ls s)).length = cntB ls s co ro h := by
  unfold marksF cntB
  rw [List.filter_filter]
  congr 1
  refine List.filter_congr fun i _ => ?_
  unfold atS markAt markH
  cases hx : ls[i]? with
  | none => rfl
  | some a =>
    simp only
    by_cases e : a.sheet = s
    · rw [e, List.getD_eq_getElem?_getD, hh]; rfl
    · rw [beq_eq_false_iff_ne.2 e]; rfl
theorem marks_lt {ls : List Fl} {co ro : Nat} {hs : List Nat} {y : Nat} (h : y ∈ marksF ls co ro hs) : y < ls.length := by
  unfold marksF at h
  exact List.mem_range.1 (List.mem_filter.1 h).1
theorem marks_up {ls : List Fl} {co ro : Nat} {hs : List Nat} {x y z : Nat} (h1 : (marksF ls co ro hs)[x]? = some y) (h2 : (marksF ls co ro hs)[x + 1]? = some z) : y < z := by
  have hp : (marksF ls co ro hs).Pairwise (· < ·) := by unfold marksF; exact List.Pairwise.filter _ List.pairwise_lt_range
  obtain ⟨k1, e1⟩ := List.getElem?_eq_some_iff.1 h1
  obtain ⟨k2, e2⟩ := List.getElem?_eq_some_iff.1 h2
  have := List.pairwise_iff_getElem.1 hp x (x + 1) k1 k2 (by omega)
  rwa [e1, e2] at this
end Go.Proofs.YtdpiemgdenfkoaaGreatDoor

/- The law's comparison of two lists of numbers. -/
namespace Go.Proofs.YtdpiemgdenfkoaaGreatDoor
set_option linter.unusedSimpArgs false
set_option linter.unusedVariables false
open Go Go.RowKit Go.Sort Go.BigFrame Go.Shelf
attribute [local go_sem] Oper.semAt_some putAll

theorem take_step {α : Type} {xs ys : List α} {k : Nat} {x y : α} (hx : xs[k]? = some x) (hy : ys[k]? = some y) (h : xs.take k = ys.take k) (e : x = y) : xs.take (k + 1) = ys.take (k + 1) := by
  rw [List.take_add_one, List.take_add_one, h, hx, hy, e]

set_option maxRecDepth 100000 in
set_option maxHeartbeats 1000000 in
theorem Ints_any (xs ys : List Int) (v u : Value) (w : World) (hv : IntsAt w v xs) (hu : IntsAt w u ys) (hl : xs.length < 1000000) (hl2 : ys.length < 1000000) :
    Calls Tryz.prog 19 #[v, u] w fun e w' => e = .returned (.bool (decide (xs = ys))) ∧ Below w.heap.size w w' := by
  obtain ⟨ax, capx, rfl, hx⟩ := hv
  obtain ⟨ay, capy, rfl, hy⟩ := hu
  have HX := Lib.hid hx
  have HY := Lib.hid hy
  have HB := Lib.hid (Below.refl w.heap.size w)
  clear hx hy
  obtain ⟨n, hn⟩ : ∃ n, n = xs.length := ⟨_, rfl⟩
  obtain ⟨m, hm⟩ : ∃ m, m = ys.length := ⟨_, rfl⟩
  rw [← hn] at hl
  rw [← hm] at hl2
  rw [← hn, ← hm]
  have HN := Lib.hid hn
  have HM := Lib.hid hm
  clear hn hm
  have hB : ∃ B : Bool, ((n : Int) == (m : Int)) = B ∧ Hid ((B = true → n = m) ∧ (B = false → xs ≠ ys)) := by
    by_cases e : n = m
    · exact ⟨true, by simp [e], fun _ => e, fun h => by cases h⟩
    · exact ⟨false, by simp; omega, (fun h => by cases h), fun _ h => e (by rw [HN.out, HM.out, h])⟩
  obtain ⟨B, hBe, HBB⟩ := hB
  go_enter Tryz.func19, Tryz.ntmps19
  go_wp2_with fail
  go_loopw [5, 6] (fun f i wr => ∃ (k q : Nat) (D : Bool), k ≤ n ∧ i = .int .i64 k ∧ wr = w.drewN q ∧ f = .bool D ∧ Hid (D = true → n = m ∧ xs.take k = ys.take k) ∧ Hid (D = false → xs ≠ ys)) (fun _ i _ => n - (intOf i).toNat)
  case atStart => exact ⟨0, 0, B, by omega, rfl, rfl, rfl, fun h => ⟨HBB.out.1 h, rfl⟩, HBB.out.2⟩
  case round =>
    obtain ⟨k, q, D, hk, rfl, rfl, rfl, hT, hF⟩ := hrel
    clear HBB hBe
    cases D with
    | false =>
      have HD : Hid (decide (xs = ys) = false) := decide_eq_false (hF.out rfl)
      clear hT hF
      go_wp2_with fail
      go_ret
      exact ⟨by rw [HD.out]; rfl, bdrewN HB.out _⟩
    | true =>
      obtain ⟨hnm, htk⟩ := hT.out rfl
      clear hT hF
      by_cases hlt : k < n
      · obtain ⟨x, hx⟩ : ∃ x, xs[k]? = some x := ⟨_, List.getElem?_eq_getElem (by have := HN.out; omega)⟩
        obtain ⟨y, hy⟩ : ∃ y, ys[k]? = some y := ⟨_, List.getElem?_eq_getElem (by have := HM.out; omega)⟩
        obtain ⟨gx, rfl, -, hcx⟩ := HX.out (fun e => by rw [e] at hx; cases hx)
        obtain ⟨gy, rfl, -, hcy⟩ := HY.out (fun e => by rw [e] at hy; cases hy)
        have x0 := hcx k x hx
        have y0 := hcy k y hy
        have HXX := Lib.hid hx
        have HYY := Lib.hid hy
        have HTK := Lib.hid htk
        have hkm : k < m := by omega
        clear hcx hcy hx hy htk
        go_wp2_with fail
        by_cases hxy : x = y
        · subst hxy
          go_quiet (fail)
          go_wp2_with fail
          go_roundw
          case rel => exact ⟨k + 1, q + nq, true, by omega, by go_num, rfl, by simp, (fun _ => ⟨hnm, take_step HXX.out HYY.out HTK.out rfl⟩), (fun h => by cases h)⟩
          case measure => simp [intOf]; omega
        · have HNE : Hid (xs ≠ ys) := fun e => by have h1 := HXX.out; rw [e, HYY.out] at h1; cases h1; exact hxy rfl
          go_quiet (fail)
          go_wp2_with fail
          go_roundw
          case rel => exact ⟨k + 1, q + nq, false, by omega, by go_num, rfl, by simp [hxy], (fun h => by cases h), (fun _ => HNE.out)⟩
          case measure => simp [intOf]; omega
      · have hkn : k = n := by omega
        have HD : Hid (decide (xs = ys) = true) := decide_eq_true (by
          have h1 := htk
          rw [hkn, HN.out, List.take_length, ← HN.out, hnm, HM.out, List.take_length] at h1
          exact h1)
        subst hkn
        clear htk
        go_wp2_with fail
        go_ret
        exact ⟨by rw [HD.out]; rfl, bdrewN HB.out _⟩

end Go.Proofs.YtdpiemgdenfkoaaGreatDoor

/- Small functions of the reference over lists: Has, Alike, Before. -/
namespace Go.Proofs.YtdpiemgdenfkoaaGreatDoor
set_option linter.unusedSimpArgs false
set_option linter.unusedVariables false
open Go Go.RowKit Go.Sort Go.BigFrame Go.Shelf
attribute [local go_sem] Oper.semAt_some putAll

theorem IntsAt.get {W : World} {a : Option Addr} {n cap : Nat} {xs : List Int} (h : IntsAt W (.slice a n cap) xs) {i : Nat} {x : Int} (hx : xs[i]? = some x) : ∃ g, a = some ⟨g, 0, none⟩ ∧ g < W.heap.size ∧ W.cell? ⟨g, i, none⟩ = some (.int .i64 x) := by
  obtain ⟨a', cap', e, hc⟩ := h
  cases e
  obtain ⟨g, h1, h2, h3⟩ := hc (fun e => by rw [e] at hx; cases hx)
  exact ⟨g, h1, h2, h3 i x hx⟩
theorem not_mem_take {xs : List Int} {k : Nat} {x z : Int} (hx : xs[k]? = some x) (h : z ∉ xs.take k) (hne : x ≠ z) : z ∉ xs.take (k + 1) := by
  rw [List.take_add_one, hx]
  simp only [Option.toList_some, List.mem_append, List.mem_singleton, not_or]
  exact ⟨h, fun e => hne e.symm⟩

set_option maxRecDepth 100000 in
set_option maxHeartbeats 400000 in
theorem refHas_any (xs : List Int) (v : Value) (z : Int) (w : World) (hv : IntsAt w v xs) (hl : xs.length < 1000000) :
    Calls Tryz.prog 26 #[v, .int .i64 z] w fun e w' => e = .returned (.bool (decide (z ∈ xs))) ∧ w' = w := by
  have HV := Lib.hid hv
  obtain ⟨a, cap, rfl, -⟩ := hv
  obtain ⟨n, hn⟩ : ∃ n, n = xs.length := ⟨_, rfl⟩
  have HN := Lib.hid hn
  rw [← hn] at HV hl ⊢
  clear hn
  go_enter Tryz.func26, Tryz.ntmps26
  go_wp2_with fail
  go_loopw [5] (fun q wr => ∃ (k : Nat), k ≤ n ∧ q = .int .i64 k ∧ Hid (z ∉ xs.take k) ∧ wr = w) (fun q _ => n - (intOf q).toNat)
  case atStart => exact ⟨0, by omega, rfl, (by show z ∉ _; simp), rfl⟩
  case round =>
    obtain ⟨k, hk, rfl, hT, rfl⟩ := hrel
    by_cases hlt : k < n
    · obtain ⟨x, hx⟩ : ∃ x, xs[k]? = some x := ⟨_, List.getElem?_eq_getElem (by have := HN.out; omega)⟩
      obtain ⟨g, rfl, -, q0⟩ := HV.out.get hx
      have HX := Lib.hid hx
      clear hx
      by_cases e : x = z
      · have HD : Hid (decide (z ∈ xs) = true) := Lib.hid (decide_eq_true (by rw [← e]; exact List.mem_of_getElem? HX.out))
        have e0 : (x == z) = true := by simp [e]
        clear e hT
        go_wp2_with fail
        go_ret
        exact ⟨by rw [HD.out]; rfl, rfl⟩
      · have e0 : (x == z) = false := by simp [e]
        have HT := Lib.hid (not_mem_take HX.out hT.out e)
        clear e hT
        go_wp2_with fail
        go_roundw
        case rel => exact ⟨k + 1, by omega, by go_num, HT.out, trivial⟩
        case measure => simp [intOf]; omega
    · have HD : Hid (decide (z ∈ xs) = false) := Lib.hid (decide_eq_false (by
        have h := hT.out
        rwa [List.take_of_length_le (by have := HN.out; omega)] at h))
      clear hT
      go_wp2_with fail
      go_ret
      exact ⟨by rw [HD.out]; rfl, rfl⟩

end Go.Proofs.YtdpiemgdenfkoaaGreatDoor

/- awake_any2, worked out: pieces 0 to 3. -/
namespace Go.Proofs.YtdpiemgdenfkoaaGreatDoor
set_option linter.unusedSimpArgs false
set_option linter.unusedVariables false
open Go Go.RowKit
noncomputable section
def yfA0 : Fr := ⟨.leaf, (Tryz.f13).ntmps, [], 1⟩
def yfH0 (t : TypeId) : H := h00 tab64 t
def yfA1 : Fr := (Fr.mk (Tr.node Tr.leaf (some (V.lit (Value.bool Bool.false))) Tr.leaf) 194 [] 1)
def yfH1 (t : TypeId) : H := ⟨40, 40, 40, .node Tr.leaf (some (.cells tab64 t)) Tr.leaf⟩
theorem yfP0 (t : TypeId) : evGc Tryz.prog 100000 (piece 0 (bodyOf Tryz.f13)) yfA0 (yfH0 t) [0] = .ok (.normal, yfA1, yfH1 t) := by kernel_rfl
def yfA2 : Fr := (Fr.mk (Tr.node (Tr.node Tr.leaf (some (V.ptr 45 0)) (Tr.node (Tr.node Tr.leaf none (Tr.node Tr.leaf (some (V.agg [(V.slc 41 0 3 3 Bool.false), (V.slc 44 0 1 1 Bool.false), (V.lit (Value.int IntKind.i64 (Int.ofNat 10))), (V.lit (Value.int IntKind.i64 (Int.ofNat 2)))])) Tr.leaf)) none Tr.leaf)) (some (V.lit (Value.bool Bool.false))) Tr.leaf) 194 [] 1)
def yfH2 (t : TypeId) : H := ⟨46, 40, 40, .node (Tr.node Tr.leaf none (Tr.node (Tr.node Tr.leaf none (Tr.node (Tr.node Tr.leaf (some (Ob.cells [(V.lit (Value.string (ByteArray.mk (Array.mk [(UInt8.ofNat 102), (UInt8.ofNat 111), (UInt8.ofNat 108), (UInt8.ofNat 105), (UInt8.ofNat 111)])))), (V.lit (Value.string (ByteArray.mk (Array.mk [(UInt8.ofNat 120)])))), (V.lit (Value.string (ByteArray.mk (Array.mk [(UInt8.ofNat 113), (UInt8.ofNat 117), (UInt8.ofNat 97), (UInt8.ofNat 114), (UInt8.ofNat 116), (UInt8.ofNat 111)])))), (V.lit (Value.string (ByteArray.mk (Array.mk [(UInt8.ofNat 120), (UInt8.ofNat 121)])))), (V.lit (Value.string (ByteArray.mk (Array.mk [(UInt8.ofNat 111), (UInt8.ofNat 99), (UInt8.ofNat 116), (UInt8.ofNat 97), (UInt8.ofNat 118), (UInt8.ofNat 111)])))), (V.lit (Value.string (ByteArray.mk (Array.mk [(UInt8.ofNat 120), (UInt8.ofNat 121), (UInt8.ofNat 120)]))))] 62)) Tr.leaf) none Tr.leaf)) none (Tr.node Tr.leaf none (Tr.node (Tr.node Tr.leaf (some (Ob.cells [(V.slc 41 0 3 3 Bool.false), (V.slc 44 0 1 1 Bool.false), (V.lit (Value.int IntKind.i64 (Int.ofNat 10))), (V.lit (Value.int IntKind.i64 (Int.ofNat 2)))] 25)) Tr.leaf) none Tr.leaf)))) (some (.cells tab64 t)) (Tr.node (Tr.node Tr.leaf none (Tr.node Tr.leaf none (Tr.node (Tr.node Tr.leaf (some (Ob.cells [(V.lit (Value.string (ByteArray.mk (Array.mk [(UInt8.ofNat 112), (UInt8.ofNat 111), (UInt8.ofNat 116)])))), (V.lit (Value.int IntKind.i64 (Int.ofNat 400))), (V.lit (Value.int IntKind.i64 (Int.ofNat 410))), (V.lit (Value.int IntKind.i64 (Int.ofNat 300))), (V.lit (Value.int IntKind.i64 (Int.ofNat 306)))] 75)) Tr.leaf) none Tr.leaf))) none Tr.leaf)⟩
theorem yfP1 (t : TypeId) : evGc Tryz.prog 100000 (piece 1 (bodyOf Tryz.f13)) yfA1 (yfH1 t) [0, 41, 44, 45] = .ok (.normal, yfA2, yfH2 t) := by kernel_rfl
def yfA3 : Fr := (Fr.mk (Tr.node (Tr.node (Tr.node (Tr.node (Tr.node (Tr.node Tr.leaf (some (V.lit (Value.int IntKind.i64 (Int.ofNat 0)))) Tr.leaf) none Tr.leaf) none Tr.leaf) (some (V.lit (Value.int IntKind.i64 (Int.ofNat 0)))) (Tr.node Tr.leaf none (Tr.node Tr.leaf (some (V.agg [(V.slc 41 0 3 3 Bool.false), (V.slc 44 0 1 1 Bool.false), (V.lit (Value.int IntKind.i64 (Int.ofNat 10))), (V.lit (Value.int IntKind.i64 (Int.ofNat 2)))])) Tr.leaf))) (some (V.ptr 45 0)) (Tr.node (Tr.node Tr.leaf none (Tr.node Tr.leaf (some (V.agg [(V.slc 41 0 3 3 Bool.false), (V.slc 44 0 1 1 Bool.false), (V.lit (Value.int IntKind.i64 (Int.ofNat 10))), (V.lit (Value.int IntKind.i64 (Int.ofNat 2)))])) Tr.leaf)) none (Tr.node Tr.leaf none (Tr.node Tr.leaf (some (V.tup [(V.slc 130 0 4 4 Bool.true), (V.lit (Value.int IntKind.i64 (Int.ofNat 0)))])) Tr.leaf)))) (some (V.lit (Value.bool Bool.false))) (Tr.node (Tr.node Tr.leaf none (Tr.node Tr.leaf none (Tr.node Tr.leaf (some (V.agg [(V.lit (Value.int IntKind.i64 (Int.ofNat 1))), (V.lit (Value.int IntKind.i64 (Int.ofNat 0))), (V.lit (Value.int IntKind.i64 (Int.ofNat 1))), (V.lit (Value.bool Bool.false))])) Tr.leaf))) (some (V.slc 130 0 4 4 Bool.true)) (Tr.node (Tr.node Tr.leaf none (Tr.node Tr.leaf (some (V.tup [(V.slc 130 0 4 4 Bool.true), (V.lit (Value.int IntKind.i64 (Int.ofNat 0)))])) Tr.leaf)) none (Tr.node Tr.leaf none (Tr.node Tr.leaf (some (V.slc 130 0 4 4 Bool.true)) Tr.leaf))))) 194 [] 1)
def yfH3 (t : TypeId) : H := ⟨132, 40, 40, .node (Tr.node Tr.leaf none (Tr.node (Tr.node Tr.leaf none (Tr.node (Tr.node Tr.leaf (some (Ob.cells [(V.lit (Value.string (ByteArray.mk (Array.mk [(UInt8.ofNat 102), (UInt8.ofNat 111), (UInt8.ofNat 108), (UInt8.ofNat 105), (UInt8.ofNat 111)])))), (V.lit (Value.string (ByteArray.mk (Array.mk [(UInt8.ofNat 120)])))), (V.lit (Value.string (ByteArray.mk (Array.mk [(UInt8.ofNat 113), (UInt8.ofNat 117), (UInt8.ofNat 97), (UInt8.ofNat 114), (UInt8.ofNat 116), (UInt8.ofNat 111)])))), (V.lit (Value.string (ByteArray.mk (Array.mk [(UInt8.ofNat 120), (UInt8.ofNat 121)])))), (V.lit (Value.string (ByteArray.mk (Array.mk [(UInt8.ofNat 111), (UInt8.ofNat 99), (UInt8.ofNat 116), (UInt8.ofNat 97), (UInt8.ofNat 118), (UInt8.ofNat 111)])))), (V.lit (Value.string (ByteArray.mk (Array.mk [(UInt8.ofNat 120), (UInt8.ofNat 121), (UInt8.ofNat 120)]))))] 62)) Tr.leaf) none Tr.leaf)) none (Tr.node Tr.leaf none (Tr.node (Tr.node Tr.leaf (some (Ob.cells [(V.slc 41 0 3 3 Bool.false), (V.slc 44 0 1 1 Bool.false), (V.lit (Value.int IntKind.i64 (Int.ofNat 10))), (V.lit (Value.int IntKind.i64 (Int.ofNat 2)))] 25)) Tr.leaf) none Tr.leaf)))) (some (.cells tab64 t)) (Tr.node (Tr.node Tr.leaf none (Tr.node Tr.leaf none (Tr.node (Tr.node Tr.leaf (some (Ob.cells [(V.lit (Value.string (ByteArray.mk (Array.mk [(UInt8.ofNat 112), (UInt8.ofNat 111), (UInt8.ofNat 116)])))), (V.lit (Value.int IntKind.i64 (Int.ofNat 400))), (V.lit (Value.int IntKind.i64 (Int.ofNat 410))), (V.lit (Value.int IntKind.i64 (Int.ofNat 300))), (V.lit (Value.int IntKind.i64 (Int.ofNat 306)))] 75)) Tr.leaf) none Tr.leaf))) none (Tr.node (Tr.node (Tr.node (Tr.node (Tr.node (Tr.node Tr.leaf (some (Ob.cells [(V.lit (Value.int IntKind.i64 (Int.ofNat 0))), (V.lit (Value.int IntKind.i64 (Int.ofNat 0))), (V.lit (Value.int IntKind.i64 (Int.ofNat 0))), (V.lit (Value.bool Bool.false)), (V.lit (Value.bool Bool.false)), (V.lit (Value.int IntKind.i64 (Int.ofNat 0))), (V.lit (Value.int IntKind.i64 (Int.ofNat 1))), (V.lit (Value.int IntKind.i64 (Int.ofNat 0))), (V.lit (Value.bool Bool.true)), (V.lit (Value.bool Bool.true)), (V.lit (Value.int IntKind.i64 (Int.ofNat 0))), (V.lit (Value.int IntKind.i64 (Int.ofNat 1))), (V.lit (Value.int IntKind.i64 (Int.ofNat 1))), (V.lit (Value.bool Bool.false)), (V.lit (Value.bool Bool.true)), (V.lit (Value.int IntKind.i64 (Int.ofNat 0))), (V.lit (Value.int IntKind.i64 (Int.ofNat 0))), (V.lit (Value.int IntKind.i64 (Int.ofNat 1))), (V.lit (Value.bool Bool.true)), (V.lit (Value.bool Bool.false))] 57)) Tr.leaf) none Tr.leaf) none Tr.leaf) none Tr.leaf) none Tr.leaf) none Tr.leaf))⟩
theorem yfP2 (t : TypeId) : evGc Tryz.prog 100000 (piece 2 (bodyOf Tryz.f13)) yfA2 (yfH2 t) [0, 41, 44, 45, 130] = .ok (.normal, yfA3, yfH3 t) := by kernel_rfl
def yfA4 : Fr := (Fr.mk (Tr.node (Tr.node (Tr.node (Tr.node (Tr.node (Tr.node Tr.leaf (some (V.lit (Value.int IntKind.i64 (Int.ofNat 0)))) Tr.leaf) none Tr.leaf) none Tr.leaf) (some (V.lit (Value.int IntKind.i64 (Int.ofNat 0)))) (Tr.node (Tr.node (Tr.node Tr.leaf (some (V.tup [(V.slc 234 0 4 4 Bool.true), (V.lit (Value.int IntKind.i64 (Int.ofNat 0)))])) Tr.leaf) none Tr.leaf) none (Tr.node Tr.leaf (some (V.agg [(V.slc 41 0 3 3 Bool.false), (V.slc 44 0 1 1 Bool.false), (V.lit (Value.int IntKind.i64 (Int.ofNat 10))), (V.lit (Value.int IntKind.i64 (Int.ofNat 2)))])) Tr.leaf))) (some (V.ptr 45 0)) (Tr.node (Tr.node (Tr.node (Tr.node Tr.leaf (some (V.agg [(V.slc 41 0 3 3 Bool.false), (V.slc 44 0 1 1 Bool.false), (V.lit (Value.int IntKind.i64 (Int.ofNat 10))), (V.lit (Value.int IntKind.i64 (Int.ofNat 2)))])) Tr.leaf) none Tr.leaf) none (Tr.node Tr.leaf (some (V.agg [(V.slc 41 0 3 3 Bool.false), (V.slc 44 0 1 1 Bool.false), (V.lit (Value.int IntKind.i64 (Int.ofNat 10))), (V.lit (Value.int IntKind.i64 (Int.ofNat 2)))])) Tr.leaf)) (some (V.lit (Value.int IntKind.i64 (Int.ofNat 0)))) (Tr.node (Tr.node (Tr.node Tr.leaf (some (V.lit (Value.int IntKind.i64 (Int.ofNat 0)))) Tr.leaf) none Tr.leaf) none (Tr.node Tr.leaf (some (V.tup [(V.slc 130 0 4 4 Bool.true), (V.lit (Value.int IntKind.i64 (Int.ofNat 0)))])) Tr.leaf)))) (some (V.lit (Value.bool Bool.false))) (Tr.node (Tr.node (Tr.node (Tr.node (Tr.node Tr.leaf (some (V.tup [(V.slc 234 0 4 4 Bool.true), (V.lit (Value.int IntKind.i64 (Int.ofNat 0)))])) Tr.leaf) none Tr.leaf) none Tr.leaf) (some (V.slc 234 0 4 4 Bool.true)) (Tr.node (Tr.node (Tr.node Tr.leaf (some (V.slc 234 0 4 4 Bool.true)) Tr.leaf) none Tr.leaf) none (Tr.node Tr.leaf (some (V.agg [(V.lit (Value.int IntKind.i64 (Int.ofNat 1))), (V.lit (Value.int IntKind.i64 (Int.ofNat 0))), (V.lit (Value.int IntKind.i64 (Int.ofNat 1))), (V.lit (Value.bool Bool.false))])) Tr.leaf))) (some (V.slc 130 0 4 4 Bool.true)) (Tr.node (Tr.node (Tr.node (Tr.node Tr.leaf (some (V.agg [(V.lit (Value.int IntKind.i64 (Int.ofNat 1))), (V.lit (Value.int IntKind.i64 (Int.ofNat 0))), (V.lit (Value.int IntKind.i64 (Int.ofNat 1))), (V.lit (Value.bool Bool.false))])) Tr.leaf) none Tr.leaf) none (Tr.node Tr.leaf (some (V.tup [(V.slc 130 0 4 4 Bool.true), (V.lit (Value.int IntKind.i64 (Int.ofNat 0)))])) Tr.leaf)) none (Tr.node Tr.leaf none (Tr.node Tr.leaf (some (V.slc 130 0 4 4 Bool.true)) Tr.leaf))))) 194 [] 1)
def yfH4 (t : TypeId) : H := ⟨235, 40, 40, .node (Tr.node Tr.leaf none (Tr.node (Tr.node Tr.leaf none (Tr.node (Tr.node Tr.leaf (some (Ob.cells [(V.lit (Value.string (ByteArray.mk (Array.mk [(UInt8.ofNat 102), (UInt8.ofNat 111), (UInt8.ofNat 108), (UInt8.ofNat 105), (UInt8.ofNat 111)])))), (V.lit (Value.string (ByteArray.mk (Array.mk [(UInt8.ofNat 120)])))), (V.lit (Value.string (ByteArray.mk (Array.mk [(UInt8.ofNat 113), (UInt8.ofNat 117), (UInt8.ofNat 97), (UInt8.ofNat 114), (UInt8.ofNat 116), (UInt8.ofNat 111)])))), (V.lit (Value.string (ByteArray.mk (Array.mk [(UInt8.ofNat 120), (UInt8.ofNat 121)])))), (V.lit (Value.string (ByteArray.mk (Array.mk [(UInt8.ofNat 111), (UInt8.ofNat 99), (UInt8.ofNat 116), (UInt8.ofNat 97), (UInt8.ofNat 118), (UInt8.ofNat 111)])))), (V.lit (Value.string (ByteArray.mk (Array.mk [(UInt8.ofNat 120), (UInt8.ofNat 121), (UInt8.ofNat 120)]))))] 62)) Tr.leaf) none Tr.leaf)) none (Tr.node Tr.leaf none (Tr.node (Tr.node Tr.leaf (some (Ob.cells [(V.slc 41 0 3 3 Bool.false), (V.slc 44 0 1 1 Bool.false), (V.lit (Value.int IntKind.i64 (Int.ofNat 10))), (V.lit (Value.int IntKind.i64 (Int.ofNat 2)))] 25)) Tr.leaf) none Tr.leaf)))) (some (.cells tab64 t)) (Tr.node (Tr.node Tr.leaf none (Tr.node Tr.leaf none (Tr.node (Tr.node Tr.leaf (some (Ob.cells [(V.lit (Value.string (ByteArray.mk (Array.mk [(UInt8.ofNat 112), (UInt8.ofNat 111), (UInt8.ofNat 116)])))), (V.lit (Value.int IntKind.i64 (Int.ofNat 400))), (V.lit (Value.int IntKind.i64 (Int.ofNat 410))), (V.lit (Value.int IntKind.i64 (Int.ofNat 300))), (V.lit (Value.int IntKind.i64 (Int.ofNat 306)))] 75)) Tr.leaf) none Tr.leaf))) none (Tr.node (Tr.node (Tr.node (Tr.node (Tr.node (Tr.node Tr.leaf (some (Ob.cells [(V.lit (Value.int IntKind.i64 (Int.ofNat 0))), (V.lit (Value.int IntKind.i64 (Int.ofNat 0))), (V.lit (Value.int IntKind.i64 (Int.ofNat 0))), (V.lit (Value.bool Bool.false)), (V.lit (Value.bool Bool.false)), (V.lit (Value.int IntKind.i64 (Int.ofNat 0))), (V.lit (Value.int IntKind.i64 (Int.ofNat 1))), (V.lit (Value.int IntKind.i64 (Int.ofNat 0))), (V.lit (Value.bool Bool.true)), (V.lit (Value.bool Bool.true)), (V.lit (Value.int IntKind.i64 (Int.ofNat 0))), (V.lit (Value.int IntKind.i64 (Int.ofNat 1))), (V.lit (Value.int IntKind.i64 (Int.ofNat 1))), (V.lit (Value.bool Bool.false)), (V.lit (Value.bool Bool.true)), (V.lit (Value.int IntKind.i64 (Int.ofNat 0))), (V.lit (Value.int IntKind.i64 (Int.ofNat 0))), (V.lit (Value.int IntKind.i64 (Int.ofNat 1))), (V.lit (Value.bool Bool.true)), (V.lit (Value.bool Bool.false))] 57)) Tr.leaf) none Tr.leaf) none Tr.leaf) none Tr.leaf) none (Tr.node (Tr.node Tr.leaf none (Tr.node Tr.leaf none (Tr.node Tr.leaf (some (Ob.cells [(V.lit (Value.int IntKind.i64 (Int.ofNat 2))), (V.lit (Value.int IntKind.i64 (Int.negSucc 2))), (V.lit (Value.int IntKind.i64 (Int.ofNat 7))), (V.lit (Value.int IntKind.i64 (Int.negSucc 5)))] 3)) Tr.leaf))) none Tr.leaf)) none Tr.leaf))⟩
theorem yfP3 (t : TypeId) : evGc Tryz.prog 100000 (piece 3 (bodyOf Tryz.f13)) yfA3 (yfH3 t) [0, 41, 44, 45, 130, 234] = .ok (.normal, yfA4, yfH4 t) := by kernel_rfl
end
end Go.Proofs.YtdpiemgdenfkoaaGreatDoor
