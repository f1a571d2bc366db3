/- The parts Uc, Fe of the proof, joined. It holds without conditions of its own. -/
import Derived.Test.YtnhacghjoikgpaaGreatDoorFY12
import Derived.Test.YtnhacghjoikgpaaGreatDoorFY11
import Derived.Test.YtnhacghjoikgpaaGreatDoorFY9
import Derived.Deep.Cut
import Derived.Deep.RegionHeld3
import Derived.DeepKeys3
import Derived.Maps.Keyed
import Derived.Maps.AppendAt
import Derived.Laws.AppendOwnNone
/- Whether a piece of the watermark is in a leaf. -/
namespace Go.Proofs.YtnhacghjoikgpaaGreatDoor
set_option linter.unusedSimpArgs false
set_option linter.unusedVariables false
open Go Go.RowKit Go.Sort Go.BigFrame

def touchB (c n q : Int) : Bool := decide (4 * c ≤ q * n) && decide (q * n ≤ 4 * (c + 1))
noncomputable def touchOk (c n q : Int) : Bool := match evCall Tryz.prog 100000 0 106 [.lit (.int .i64 c), .lit (.int .i64 n), .lit (.int .i64 q)] h01 with
  | .ok (.lit (.bool b), _) => b == touchB c n q
  | _ => false
def upto16 : List Int := [0, 1, 2, 3, 4, 5, 6, 7, 8, 9, 10, 11, 12, 13, 14, 15]
def pows : List Int := [1, 2, 4, 8, 16]
theorem touch_all : (upto16.all fun c => pows.all fun n => [1, 2, 3].all fun q => touchOk c n q) = true := by kernel_rfl
theorem touches_any (c n q : Int) (hc : c ∈ upto16) (hn : n ∈ pows) (hq : q ∈ ([1, 2, 3] : List Int)) (W : World) :
    Calls Tryz.prog 106 #[.int .i64 c, .int .i64 n, .int .i64 q] W fun e w' => e = .returned (.bool (touchB c n q)) ∧ Below W.heap.size W w' := by
  have h := List.all_eq_true.1 (List.all_eq_true.1 (List.all_eq_true.1 touch_all c hc) n hn) q hq
  unfold touchOk at h
  split at h
  · rename_i b h' he
    have := eval_lits (P := Tryz.prog) followsT (fid := 106) (ys := [.int .i64 c, .int .i64 n, .int .i64 q]) (W := W) he
    refine this.mono ?_
    rintro en W' ⟨x, e', rfl, hx, -, hb, -⟩
    rw [VR_lit.1 hx, beq_iff_eq.1 h]
    exact ⟨rfl, hb⟩
  · cases h
theorem upto16_in {c : Nat} (h : c < 16) : (c : Int) ∈ upto16 := by
  unfold upto16
  simp only [List.mem_cons, List.not_mem_nil, or_false]
  omega
/-- Is a piece of the watermark in a leaf? -/
def markB (co ro : Nat) (hf : Nat) (x : Fl) : Bool := touchB x.col co (1 + 2 * hf) && touchB x.row ro 2
def small16B (l : List Fl) : Bool := l.all fun a => decide (a.col < 16) && decide (a.row < 16)
theorem small16_all : ∀ f ∈ allFolds, ∀ n ∈ [1, 2, 3, 4], small16B (leavesF f n false) = true := by decide +kernel
theorem small16_half : ∀ f ∈ allFolds, 2 ≤ f.length → small16B (leavesF f 1 true) = true := by decide +kernel
theorem pows_all : ∀ f ∈ allFolds, ((colsF f : Nat) : Int) ∈ pows ∧ ((rowsF f : Nat) : Int) ∈ pows := by decide +kernel
theorem Fine.small {p : Prs} {m : Mkw} {f : Fmt} (h : Fine p m f) {i : Nat} {a : Fl} (hi : (leavesW m f)[i]? = some a) : a.col < 16 ∧ a.row < 16 := by
  obtain ⟨h1, h2⟩ := h.mem
  have hm := List.mem_of_getElem? hi
  have key : small16B (leavesW m f) = true := by
    unfold leavesW
    cases hh : m.half with
    | false => exact small16_all _ h1 _ h2
    | true =>
      obtain ⟨h3, h4⟩ := h.two hh
      rw [h3]
      exact small16_half _ h1 h4
  have := List.all_eq_true.1 key _ hm
  simpa using this

set_option maxRecDepth 100000 in
set_option maxHeartbeats 1000000 in
theorem marked_any (m : Mkw) (s : Bs) (co ro : Nat) (q : Ppr) (tr : Int) (lv : Value) (ls : List Fl) (g i hf : Nat) (x : Fl) (w : World) (hl : LeavesAt w lv ls g) (hn : ls.length ≤ 1000) (hi : ls[i]? = some x)
    (h1 : x.col < 16) (h2 : x.row < 16) (h3 : (co : Int) ∈ pows) (h4 : (ro : Int) ∈ pows) (h5 : hf ≤ 1) :
    Calls Tryz.prog 77 #[.agg (wayC m s co ro q tr lv), .int .i64 i, .int .i64 hf] w fun e w' => e = .returned (.bool (markB co ro hf x)) ∧ Below w.heap.size w w' := by
  have HL := Lib.hid hl
  obtain ⟨k7, rest, rfl, -⟩ := hl
  obtain ⟨n7, hn7⟩ : ∃ n, n = ls.length := ⟨_, rfl⟩
  rw [← hn7] at HL hn ⊢
  have hi7 : i < n7 := by rw [hn7]; exact (List.getElem?_eq_some_iff.1 hi).1
  have hb0 : Below w.heap.size w (w.alloc (.cells (wayC m s co ro q tr (.slice (some ⟨g, 0, none⟩) n7 (n7 + k7))) 83)) := (Below.refl _ _).alloc (Nat.le_refl _) _
  have hc1 : (w.alloc (.cells (wayC m s co ro q tr (.slice (some ⟨g, 0, none⟩) n7 (n7 + k7))) 83)).heap[w.heap.size]? = some (.cells (wayC m s co ro q tr (.slice (some ⟨g, 0, none⟩) n7 (n7 + k7))) 83 (0, 0)) := by exact (by repeat (first | exact heap_alloc_at _ _ _ (by (first | omega | (simp; done) | (simp; omega) | (simp at *; omega) | fail)) | assumption | rw [heap_alloc_past _ _ _ (by (first | omega | (simp; done) | (simp; omega) | (simp at *; omega) | fail))] | rw [heap_setCell_past _ _ _ _ (by (first | omega | (simp; done) | (simp; omega) | (simp at *; omega) | fail))] | fail))
  obtain ⟨x0, x1, x2, x3, x4⟩ := leaf_cells (HL.out.later hb0) hi
  have H1 := Lib.hid (upto16_in h1)
  have H2 := Lib.hid (upto16_in h2)
  have H3 := Lib.hid h3
  have H4 := Lib.hid h4
  have H5 : Hid ((1 : Int) + 2 * (hf : Int) ∈ ([1, 2, 3] : List Int)) := Lib.hid (by simp; omega)
  obtain ⟨z, hz⟩ : ∃ z, z = markB co ro hf x := ⟨_, rfl⟩
  rw [← hz]
  have HZ := Lib.hid hz
  clear hz hn7 hi HL h1 h2 h3 h4
  go_enter Tryz.func77, Tryz.ntmps77
  go_wp2_with fail
  have hs1 : (w.alloc (.cells (wayC m s co ro q tr (.slice (some ⟨g, 0, none⟩) n7 (n7 + k7))) 83)).heap.size = w.heap.size + 1 := by simp
  revert hb0 hc1 x0 x1 x2 x3 x4 hs1
  generalize (w.alloc (.cells (wayC m s co ro q tr (.slice (some ⟨g, 0, none⟩) n7 (n7 + k7))) 83)) = w1
  intro hb0 hc1 x0 x1 x2 x3 x4 hs1
  have HS1 := Lib.hid hs1
  clear hs1
  have d5 := blk_cell hc1 5
  have d6 := blk_cell hc1 6
  have d13 := blk_cell hc1 13
  go_wp2_with fail
  obtain ⟨z1, hz1⟩ : ∃ z, z = touchB x.col co (1 + 2 * (hf : Int)) := ⟨_, rfl⟩
  obtain ⟨z2, hz2⟩ : ∃ z, z = touchB x.row ro 2 := ⟨_, rfl⟩
  have HZ2 : Hid (z = (z1 && z2)) := Lib.hid (by rw [HZ.out, hz1, hz2]; rfl)
  have hb2 : Below w.heap.size w (w1.alloc (.cells #[.int .i64 x.sheet, .int .i64 x.col, .int .i64 x.row, .bool x.inner, .bool x.turned] 106)) := hb0.alloc hb0.size _
  have bx : (w1.alloc (.cells #[.int .i64 x.sheet, .int .i64 x.col, .int .i64 x.row, .bool x.inner, .bool x.turned] 106)).heap[w1.heap.size]? = some (.cells #[.int .i64 x.sheet, .int .i64 x.col, .int .i64 x.row, .bool x.inner, .bool x.turned] 106 (0, 0)) := World.alloc_heap_new _ _
  have hc2 : (w1.alloc (.cells #[.int .i64 x.sheet, .int .i64 x.col, .int .i64 x.row, .bool x.inner, .bool x.turned] 106)).heap[w.heap.size]? = some (.cells (wayC m s co ro q tr (.slice (some ⟨g, 0, none⟩) n7 (n7 + k7))) 83 (0, 0)) := (heap_alloc_past _ _ _ (blk_lt hc1)).trans hc1
  clear x0 x1 x2 x3 x4 d5 d6 d13 hc1 hb0
  refine (touches_any _ _ _ H1.out H3.out H5.out _).mono ?_
  rintro e w9 ⟨rfl, hb⟩
  rw [← hz1]
  clear hz1
  replace hb2 := hb2.trans (hb.mono hb2.size)
  have d6 := blk_cell (blk_later hb hc2) 6
  have p2 := blk_cell (blk_later hb bx) 2
  rw [HS1.out] at p2
  clear hc2 bx hb
  cases z1 with
  | false =>
    go_wp2_with fail
    go_ret
    exact ⟨by rw [HZ2.out]; rfl, hb2⟩
  | true =>
    go_wp2_with fail
    refine (touches_any _ _ _ H2.out H4.out (by simp) _).mono ?_
    rintro e w9 ⟨rfl, hb⟩
    rw [← hz2]
    clear hz2
    replace hb2 := hb2.trans (hb.mono hb2.size)
    clear hb
    go_wp2_with fail
    go_ret
    exact ⟨by rw [HZ2.out]; rfl, hb2⟩
end Go.Proofs.YtnhacghjoikgpaaGreatDoor

/- Of a way of making: its chain lines, and what its leaves can measure. -/
namespace Go.Proofs.YtnhacghjoikgpaaGreatDoor
set_option linter.unusedSimpArgs false
set_option linter.unusedVariables false
open Go Go.RowKit Go.Sort Go.BigFrame

set_option maxRecDepth 100000 in
set_option maxHeartbeats 1000000 in
theorem meet_any (a b c d : Int) (w : World) :
    Calls Tryz.prog 96 #[.agg #[.int .i64 a, .int .i64 b], .agg #[.int .i64 c, .int .i64 d]] w fun e w' => e = .returned (.bool (decide (a ≤ d) && decide (c ≤ b))) ∧ Below w.heap.size w w' := by
  have hb2 : Below w.heap.size w ((w.alloc (.cells #[.int .i64 a, .int .i64 b] 27)).alloc (.cells #[.int .i64 c, .int .i64 d] 27)) := by exact (by repeat (first | exact Below.refl _ _ | assumption | (refine Below.alloc ?_ ?_ _; rotate_left; · (first | omega | (simp; done) | (simp; omega) | fail)) | (refine Below.setCell ?_ ?_ _; rotate_left; · (first | omega | (simp; done) | (simp; omega) | fail)) | refine Below.drew ?_ | fail))
  have HB := Lib.hid hb2
  clear hb2
  cases h1 : decide (a ≤ d) with
  | false =>
    go_enter Tryz.func96, Tryz.ntmps96
    go_wp2_with fail
    go_ret
    exact ⟨by simp, HB.out⟩
  | true =>
    cases h2 : decide (c ≤ b) with
    | false =>
      go_enter Tryz.func96, Tryz.ntmps96
      go_wp2_with fail
      go_ret
      exact ⟨by simp, HB.out⟩
    | true =>
      go_enter Tryz.func96, Tryz.ntmps96
      go_wp2_with fail
      go_ret
      exact ⟨by simp, HB.out⟩
set_option maxRecDepth 100000 in
set_option maxHeartbeats 1000000 in
theorem lastFold_any {D : Fds} (h1 : 1 ≤ D.length) (h4 : D.length ≤ 4) (w : World) :
    Calls Tryz.prog 115 #[S (bytesF D)] w fun e w' => e = .returned (.int .i32 (if lastF D then 120 else 121)) ∧ w' = w := by
  obtain ⟨kl, hkl, cl, hcl, hlast⟩ := bytesF_last h1
  have hzs : (⟨(bytesF D).toArray⟩ : ByteArray).size = kl + 1 := by rw [size_bytes, hkl]
  have hcl2 : cl = if lastF D then 120 else 121 := by
    have h0 : kl < (⟨(bytesF D).toArray⟩ : ByteArray).size := by rw [hzs]; omega
    have h2 := hlast h0
    have hm : (bytesF D)[kl]? = some cl := by
      have h3 : kl < (bytesF D).length := by omega
      rw [List.getElem?_eq_getElem h3]
      exact congrArg some h2
    have hk2 : kl + 1 = D.length := by rw [← hkl]; unfold bytesF; simp
    unfold bytesF at hm
    rw [List.getElem?_map, Option.map_eq_some_iff] at hm
    obtain ⟨b, hb, hc⟩ := hm
    have hne : D ≠ [] := fun e => by rw [e] at h1; simp at h1
    have : lastF D = b := by
      unfold lastF
      rw [List.getLastD_eq_getLast?, List.getLast?_eq_getElem?, show D.length - 1 = kl by omega, hb]
      rfl
    rw [this, ← hc]
  have hv : (cl.toNat : Int) = if lastF D then 120 else 121 := by rw [hcl2]; cases lastF D <;> rfl
  rw [← hv]
  clear hcl2 hv hcl hkl
  have hc8 : cl.toNat < 256 := cl.toNat_lt
  have hkl4 : kl < 4 := by have : (bytesF D).length = D.length := (by unfold bytesF; simp); rw [size_bytes] at hzs; omega
  obtain ⟨bs, hbs⟩ : ∃ bs, bs = bytesF D := ⟨_, rfl⟩
  rw [← hbs] at hzs hlast ⊢
  clear hbs h1 h4
  go_enter Tryz.func115, Tryz.ntmps115
  go_wp2_with fail
  go_ret
  exact ⟨rfl, rfl⟩
set_option maxRecDepth 100000 in
set_option maxHeartbeats 1000000 in
theorem upright_any (m : Mkw) (D : Fds) (c r : Int) (q : Ppr) (tr : Int) (lv : Value) (w : World) (h1 : 1 ≤ D.length) (h4 : D.length ≤ 4) :
    Calls Tryz.prog 95 #[.agg (wayC m (bytesF D) c r q tr lv)] w fun e w' => e = .returned (.bool (lastF D)) ∧ Below w.heap.size w w' := by
  have hl := fun W => lastFold_any (D := D) h1 h4 W
  have HL := Lib.hid hl
  obtain ⟨b, hb⟩ : ∃ b, b = lastF D := ⟨_, rfl⟩
  rw [← hb] at HL ⊢
  obtain ⟨bs, hbs⟩ : ∃ bs, bs = bytesF D := ⟨_, rfl⟩
  rw [← hbs] at HL ⊢
  clear hl hb hbs h1 h4
  have hb0 : Below w.heap.size w (w.alloc (.cells (wayC m bs c r q tr lv) 83)) := (Below.refl _ _).alloc (Nat.le_refl _) _
  have HB := Lib.hid hb0
  clear hb0
  cases b with
  | true =>
    go_enter Tryz.func95, Tryz.ntmps95
    go_wp2_with fail
    refine (HL.out _).mono ?_
    rintro e w2 ⟨rfl, rfl⟩
    go_wp2_with fail
    go_ret
    exact ⟨rfl, HB.out⟩
  | false =>
    go_enter Tryz.func95, Tryz.ntmps95
    go_wp2_with fail
    refine (HL.out _).mono ?_
    rintro e w2 ⟨rfl, rfl⟩
    go_wp2_with fail
    go_ret
    exact ⟨rfl, HB.out⟩
theorem wrap_div (a n k : Nat) (hk : k = a / n) (h : a ≤ 1000000) : wrap64 ((a : Int) / (n : Int)) = (k : Int) := by
  have e : ((a : Int) / (n : Int)) = (k : Int) := by rw [hk]; simp
  have h2 : k ≤ a := by rw [hk]; exact Nat.div_le_self _ _
  rw [e]
  unfold wrap64
  omega
set_option maxRecDepth 100000 in
set_option maxHeartbeats 1000000 in
theorem part_any (a b n : Nat) (hn : 1 ≤ n) (hn2 : n ≤ 16) (ha : a ≤ 2000) (hb : b ≤ 2000) (w : World) :
    Calls Tryz.prog 117 #[.agg #[.int .i64 a, .int .i64 b], .int .i64 n] w fun e w' => e = .returned (.agg #[.int .i64 ((a / n : Nat) : Int), .int .i64 ((b / n : Nat) : Int)]) ∧ Below w.heap.size w w' := by
  obtain ⟨a1, ha1⟩ : ∃ k, k = a / n := ⟨_, rfl⟩
  obtain ⟨b1, hb1⟩ : ∃ k, k = b / n := ⟨_, rfl⟩
  rw [← ha1, ← hb1]
  have E1 := Lib.hid (wrap_div a n a1 ha1 (by omega))
  have E2 := Lib.hid (wrap_div b n b1 hb1 (by omega))
  clear ha1 hb1
  obtain ⟨w1, hw1⟩ : ∃ w1, w1 = ((w.alloc (.cells #[.int .i64 a, .int .i64 b] 27)).alloc (.cells #[.int .i64 0, .int .i64 0] 27)) := ⟨_, rfl⟩
  have hb1 : Below w.heap.size w w1 := by rw [hw1]; exact (by repeat (first | exact Below.refl _ _ | assumption | (refine Below.alloc ?_ ?_ _; rotate_left; · (first | omega | (simp; done) | (simp; omega) | fail)) | (refine Below.setCell ?_ ?_ _; rotate_left; · (first | omega | (simp; done) | (simp; omega) | fail)) | refine Below.drew ?_ | fail))
  have h0 : w1.heap[w.heap.size]? = some (.cells #[.int .i64 a, .int .i64 b] 27 (0, 0)) := by rw [hw1]; exact (by repeat (first | exact heap_alloc_at _ _ _ (by (first | omega | (simp; done) | (simp; omega) | (simp at *; omega) | fail)) | assumption | rw [heap_alloc_past _ _ _ (by (first | omega | (simp; done) | (simp; omega) | (simp at *; omega) | fail))] | rw [heap_setCell_past _ _ _ _ (by (first | omega | (simp; done) | (simp; omega) | (simp at *; omega) | fail))] | fail))
  have h1 : w1.heap[w.heap.size + 1]? = some (.cells #[.int .i64 0, .int .i64 0] 27 (0, 0)) := by rw [hw1]; exact (by repeat (first | exact heap_alloc_at _ _ _ (by (first | omega | (simp; done) | (simp; omega) | (simp at *; omega) | fail)) | assumption | rw [heap_alloc_past _ _ _ (by (first | omega | (simp; done) | (simp; omega) | (simp at *; omega) | fail))] | rw [heap_setCell_past _ _ _ _ (by (first | omega | (simp; done) | (simp; omega) | (simp at *; omega) | fail))] | fail))
  have p0 := cell_regrown (blk_cell h0 0)
  have p1 := cell_regrown (blk_cell h0 1)
  go_enter Tryz.func117, Tryz.ntmps117
  go_wp2_with fail
  rw [← hw1]
  have HB1 := Lib.hid hb1
  have H1 := Lib.hid h1
  clear hw1 hb1 h1 h0
  refine wp_region_below_tail 0 9 (by kernel_rfl) (by kernel_rfl) fun R hR => ?_; simp only [List.take_succ_cons, List.take_zero, List.drop_succ_cons, List.drop_zero, leadA, leadV, Act.put, Act.eval, List.setIfInBounds_toArray, List.set_cons_zero, List.set_cons_succ, Array.getD_eq_getD_getElem?, List.getElem?_toArray, List.getElem?_cons_zero, List.getElem?_cons_succ, Option.getD_some]; (repeat (go_big_quiet_step (fail))); refine wpQuiet_nil ?_; rintro w6 ⟨⟨d6, os6⟩, rfl⟩; have hR := Lib.hid hR
  have HB6 := Lib.hid (HB1.out.trans ((below_regrown w1 d6 os6).mono HB1.out.size))
  have h6 := blk_later (below_regrown w1 d6 os6) H1.out
  clear p0 p1 HB1 H1
  dsimp only
  generalize grow (redrawn w1 d6) os6 = w6 at *
  have H6 := Lib.hid h6
  have c0 := blk_cell h6 0; have c1 := blk_cell h6 1
  have f0 := blk_free h6 0; have f1 := blk_free h6 1
  clear h6
  go_wp2_with fail
  rw [E1.out, E2.out]
  have h7 := blk_set2 H6.out (.int .i64 (a1 : Int)) (.int .i64 (b1 : Int))
  have y0 := blk_cell h7 0
  have y1 := blk_cell h7 1
  exact bodyPost_ret (v := .agg #[.int .i64 (a1 : Int), .int .i64 (b1 : Int)]) (by simp [results, Tryz.results117, go_sem, y0, y1]) rfl ⟨rfl, by exact (by repeat (first | (refine Below.setCell ?_ ?_ _; rotate_left; · (first | omega | (simp; done) | (simp; omega) | fail)) | (refine Below.alloc ?_ ?_ _; rotate_left; · (first | omega | (simp; done) | (simp; omega) | fail)) | refine Below.drew ?_ | exact HB6.out | fail))⟩
/-- What a leaf can measure: wide from, to, high from, to. -/
def sizesF (a b c d co ro : Nat) (up : Bool) (tr : Int) : Int × Int × Int × Int :=
  if up then (((a / co : Nat) : Int) - tr, ((b / co : Nat) : Int), ((c / ro : Nat) : Int) - 2 * tr, ((d / ro : Nat) : Int)) else (((c / ro : Nat) : Int) - tr, ((d / ro : Nat) : Int), ((a / co : Nat) : Int) - 2 * tr, ((b / co : Nat) : Int))
set_option maxRecDepth 100000 in
set_option maxHeartbeats 2000000 in
theorem sizes_any (m : Mkw) (D : Fds) (co ro : Nat) (nm : Bs) (a b c d : Nat) (tr : Int) (lv : Value) (w : World) (h1 : 1 ≤ D.length) (h4 : D.length ≤ 4) (hc1 : 1 ≤ co) (hc2 : co ≤ 16) (hr1 : 1 ≤ ro) (hr2 : ro ≤ 16)
    (ha : a ≤ 2000) (hb : b ≤ 2000) (hc : c ≤ 2000) (hd : d ≤ 2000) (ht1 : 0 ≤ tr) (ht2 : tr ≤ 60) :
    Calls Tryz.prog 94 #[.agg (wayC m (bytesF D) co ro ⟨nm, a, b, c, d⟩ tr lv)] w fun e w' => e = .returned (.tuple #[.agg #[.int .i64 (sizesF a b c d co ro (lastF D) tr).1, .int .i64 (sizesF a b c d co ro (lastF D) tr).2.1], .agg #[.int .i64 (sizesF a b c d co ro (lastF D) tr).2.2.1, .int .i64 (sizesF a b c d co ro (lastF D) tr).2.2.2]]) ∧ Below w.heap.size w w' := by
  have HU := Lib.hid (fun W => upright_any m D co ro ⟨nm, a, b, c, d⟩ tr lv W h1 h4)
  obtain ⟨up, hup⟩ : ∃ b, b = lastF D := ⟨_, rfl⟩
  rw [← hup] at HU ⊢
  obtain ⟨bs, hbs⟩ : ∃ bs, bs = bytesF D := ⟨_, rfl⟩
  rw [← hbs] at HU ⊢
  clear hup hbs h1 h4
  obtain ⟨xa, ha1⟩ : ∃ n, n = a / co := ⟨_, rfl⟩
  obtain ⟨xb, hb1⟩ : ∃ n, n = b / co := ⟨_, rfl⟩
  obtain ⟨xc, hc1'⟩ : ∃ n, n = c / ro := ⟨_, rfl⟩
  obtain ⟨xd, hd1⟩ : ∃ n, n = d / ro := ⟨_, rfl⟩
  have ba : xa ≤ 2000 := by rw [ha1]; exact Nat.le_trans (Nat.div_le_self _ _) ha
  have bb : xb ≤ 2000 := by rw [hb1]; exact Nat.le_trans (Nat.div_le_self _ _) hb
  have bc : xc ≤ 2000 := by rw [hc1']; exact Nat.le_trans (Nat.div_le_self _ _) hc
  have bd : xd ≤ 2000 := by rw [hd1]; exact Nat.le_trans (Nat.div_le_self _ _) hd
  have HP1 := Lib.hid (fun W => part_any a b co hc1 hc2 ha hb W)
  have HP2 := Lib.hid (fun W => part_any c d ro hr1 hr2 hc hd W)
  unfold sizesF
  rw [← ha1, ← hb1, ← hc1', ← hd1]
  rw [← ha1, ← hb1] at HP1
  rw [← hc1', ← hd1] at HP2
  clear ha1 hb1 hc1' hd1 hc1 hc2 hr1 hr2 ha hb hc hd
  obtain ⟨w1, hw1⟩ : ∃ w1, w1 = (((w.alloc (.cells #[.int .i64 m.fmt, .int .i64 m.ppr, .int .i64 m.sheets, .bool m.half, S bs, .int .i64 co, .int .i64 ro, S nm, .int .i64 a, .int .i64 b, .int .i64 c, .int .i64 d, .int .i64 tr, lv] 83)).alloc (.cells #[.int .i64 0, .int .i64 0] 27)).alloc (.cells #[.int .i64 0, .int .i64 0] 27)) := ⟨_, rfl⟩
  have hb1 : Below w.heap.size w w1 := by rw [hw1]; exact (by repeat (first | exact Below.refl _ _ | assumption | (refine Below.alloc ?_ ?_ _; rotate_left; · (first | omega | (simp; done) | (simp; omega) | fail)) | (refine Below.setCell ?_ ?_ _; rotate_left; · (first | omega | (simp; done) | (simp; omega) | fail)) | refine Below.drew ?_ | fail))
  have h0 : w1.heap[w.heap.size]? = some (.cells #[.int .i64 m.fmt, .int .i64 m.ppr, .int .i64 m.sheets, .bool m.half, S bs, .int .i64 co, .int .i64 ro, S nm, .int .i64 a, .int .i64 b, .int .i64 c, .int .i64 d, .int .i64 tr, lv] 83 (0, 0)) := by rw [hw1]; exact (by repeat (first | exact heap_alloc_at _ _ _ (by (first | omega | (simp; done) | (simp; omega) | (simp at *; omega) | fail)) | assumption | rw [heap_alloc_past _ _ _ (by (first | omega | (simp; done) | (simp; omega) | (simp at *; omega) | fail))] | rw [heap_setCell_past _ _ _ _ (by (first | omega | (simp; done) | (simp; omega) | (simp at *; omega) | fail))] | fail))
  have h1 : w1.heap[w.heap.size + 1]? = some (.cells #[.int .i64 0, .int .i64 0] 27 (0, 0)) := by rw [hw1]; exact (by repeat (first | exact heap_alloc_at _ _ _ (by (first | omega | (simp; done) | (simp; omega) | (simp at *; omega) | fail)) | assumption | rw [heap_alloc_past _ _ _ (by (first | omega | (simp; done) | (simp; omega) | (simp at *; omega) | fail))] | rw [heap_setCell_past _ _ _ _ (by (first | omega | (simp; done) | (simp; omega) | (simp at *; omega) | fail))] | fail))
  have h2 : w1.heap[w.heap.size + 1 + 1]? = some (.cells #[.int .i64 0, .int .i64 0] 27 (0, 0)) := by rw [hw1]; exact (by repeat (first | exact heap_alloc_at _ _ _ (by (first | omega | (simp; done) | (simp; omega) | (simp at *; omega) | fail)) | assumption | rw [heap_alloc_past _ _ _ (by (first | omega | (simp; done) | (simp; omega) | (simp at *; omega) | fail))] | rw [heap_setCell_past _ _ _ _ (by (first | omega | (simp; done) | (simp; omega) | (simp at *; omega) | fail))] | fail))
  have p5 := cell_regrown (blk_cell h0 5)
  have p6 := cell_regrown (blk_cell h0 6)
  have p8 := cell_regrown (blk_cell h0 8)
  have p9 := cell_regrown (blk_cell h0 9)
  have p10 := cell_regrown (blk_cell h0 10)
  have p11 := cell_regrown (blk_cell h0 11)
  have cA : ∀ d' os, Calls Tryz.prog 117 #[.agg #[.int .i64 a, .int .i64 b], .int .i64 co] (grow (redrawn w1 d') os) (fun e w'' => e = .returned (.agg #[.int .i64 xa, .int .i64 xb]) ∧ ∃ p : Regrown, w'' = grow (redrawn w1 p.d) p.os) := fun d' os => Calls.regrown_of (HP1.out _)
  have cB : ∀ d' os, Calls Tryz.prog 117 #[.agg #[.int .i64 c, .int .i64 d], .int .i64 ro] (grow (redrawn w1 d') os) (fun e w'' => e = .returned (.agg #[.int .i64 xc, .int .i64 xd]) ∧ ∃ p : Regrown, w'' = grow (redrawn w1 p.d) p.os) := fun d' os => Calls.regrown_of (HP2.out _)
  go_enter Tryz.func94, Tryz.ntmps94
  go_wp2_with fail
  rw [← hw1]
  have HB1 := Lib.hid hb1
  have H0 := Lib.hid h0
  have H1 := Lib.hid h1
  have H2 := Lib.hid h2
  clear hw1 hb1 h1 h0 h2
  refine wp_region_below_tail 0 12 (by kernel_rfl) (by kernel_rfl) fun R hR => ?_; simp only [List.take_succ_cons, List.take_zero, List.drop_succ_cons, List.drop_zero, leadA, leadV, Act.put, Act.eval, List.setIfInBounds_toArray, List.set_cons_zero, List.set_cons_succ, Array.getD_eq_getD_getElem?, List.getElem?_toArray, List.getElem?_cons_zero, List.getElem?_cons_succ, Option.getD_some]; (repeat (go_big_quiet_step (with_reducible (first | exact cA _ _ | exact cB _ _)))); refine wpQuiet_nil ?_; rintro w6 ⟨⟨d6, os6⟩, rfl⟩; have hR := Lib.hid hR
  have HB6 := Lib.hid (HB1.out.trans ((below_regrown w1 d6 os6).mono HB1.out.size))
  have h0 := blk_later (below_regrown w1 d6 os6) H0.out
  have h1 := blk_later (below_regrown w1 d6 os6) H1.out
  have h2 := blk_later (below_regrown w1 d6 os6) H2.out
  clear p5 p6 p8 p9 p10 p11 cA cB HB1 H0 H1 H2
  dsimp only
  generalize grow (redrawn w1 d6) os6 = w6 at *
  have H0 := Lib.hid h0
  have H1 := Lib.hid h1
  have H2 := Lib.hid h2
  have c0 := blk_cell h1 0; have c1 := blk_cell h1 1
  have f0 := blk_free h1 0; have f1 := blk_free h1 1
  have d0 := blk_cell h2 0; have d1 := blk_cell h2 1
  have g0 := blk_free h2 0; have g1 := blk_free h2 1
  clear h0 h1 h2
  go_upto_region 2 with fail
  obtain ⟨w7, hw7⟩ : ∃ w7, w7 = ((((w6.setCell ⟨w.heap.size + 1, 0, none⟩ (.int .i64 xa)).setCell ⟨w.heap.size + 1, 1, none⟩ (.int .i64 xb)).setCell ⟨w.heap.size + 1 + 1, 0, none⟩ (.int .i64 xc)).setCell ⟨w.heap.size + 1 + 1, 1, none⟩ (.int .i64 xd)) := ⟨_, rfl⟩
  rw [← hw7]
  have HB7 := Lib.hid (show Below w.heap.size w w7 by rw [hw7]; exact (by repeat (first | (refine Below.setCell ?_ ?_ _; rotate_left; · (first | omega | (simp; done) | (simp; omega) | fail)) | (refine Below.alloc ?_ ?_ _; rotate_left; · (first | omega | (simp; done) | (simp; omega) | fail)) | refine Below.drew ?_ | exact HB6.out | fail)))
  have h0 : w7.heap[w.heap.size]? = some (.cells #[.int .i64 m.fmt, .int .i64 m.ppr, .int .i64 m.sheets, .bool m.half, S bs, .int .i64 co, .int .i64 ro, S nm, .int .i64 a, .int .i64 b, .int .i64 c, .int .i64 d, .int .i64 tr, lv] 83 (0, 0)) := by rw [hw7]; exact (by repeat (first | (refine (heap_setCell_past _ _ _ _ ?_).trans ?_; · (first | omega | (simp; done) | (simp; omega) | fail)) | (refine (heap_alloc_past _ _ _ ?_).trans ?_; · (first | omega | (simp; done) | (simp; omega) | fail)) | exact H0.out | fail))
  have H17 := Lib.hid (show w7.heap[w.heap.size + 1]? = some (.cells #[.int .i64 xa, .int .i64 xb] 27 (0, 0)) by rw [hw7]; exact (by repeat (first | (refine (heap_setCell_past _ _ _ _ ?_).trans ?_; · (first | omega | (simp; done) | (simp; omega) | fail)) | (refine (heap_alloc_past _ _ _ ?_).trans ?_; · (first | omega | (simp; done) | (simp; omega) | fail)) | exact blk_set2 H1.out _ _ | fail)))
  have H27 := Lib.hid (show w7.heap[w.heap.size + 1 + 1]? = some (.cells #[.int .i64 xc, .int .i64 xd] 27 (0, 0)) by rw [hw7]; exact blk_set2 (by exact (by repeat (first | (refine (heap_setCell_past _ _ _ _ ?_).trans ?_; · (first | omega | (simp; done) | (simp; omega) | fail)) | (refine (heap_alloc_past _ _ _ ?_).trans ?_; · (first | omega | (simp; done) | (simp; omega) | fail)) | exact H2.out | fail))) _ _)
  have H07 := Lib.hid h0
  clear hw7 H0 H1 H2 HB6 c0 c1 d0 d1 f0 f1 g0 g1
  have p0 := blk_cell h0 0
  have p1 := blk_cell h0 1
  have p2 := blk_cell h0 2
  have p3 := blk_cell h0 3
  have p4 := blk_cell h0 4
  have p5 := blk_cell h0 5
  have p6 := blk_cell h0 6
  have p7 := blk_cell h0 7
  have p8 := blk_cell h0 8
  have p9 := blk_cell h0 9
  have p10 := blk_cell h0 10
  have p11 := blk_cell h0 11
  have p12 := blk_cell h0 12
  have p13 := blk_cell h0 13
  clear h0
  go_wp2_with fail
  refine (HU.out _).mono ?_
  rintro e w8 ⟨rfl, hb⟩
  have HB8 := Lib.hid (HB7.out.trans (hb.mono HB7.out.size))
  have h0 := blk_later hb H07.out
  have h1 := blk_later hb H17.out
  have h2 := blk_later hb H27.out
  have H08 := Lib.hid h0
  have H18 := Lib.hid h1
  have H28 := Lib.hid h2
  clear hb p0 p1 p2 p3 p4 p5 p6 p7 p8 p9 p10 p11 p12 p13 HB7 H07 H17 H27
  have p12 := blk_cell h0 12
  have c0 := blk_cell h1 0; have c1 := blk_cell h1 1
  have f0 := blk_free h1 0; have f1 := blk_free h1 1
  have d0 := blk_cell h2 0; have d1 := blk_cell h2 1
  have g0 := blk_free h2 0; have g1 := blk_free h2 1
  clear h0 h1 h2
  cases up with
  | true =>
    go_upto_region 4 with fail
    obtain ⟨w9, hw9⟩ : ∃ w9, w9 = w8 := ⟨_, rfl⟩
    first | rw [← hw9] | skip
    have HB9 := Lib.hid (show Below w.heap.size w w9 by rw [hw9]; exact (by repeat (first | (refine Below.setCell ?_ ?_ _; rotate_left; · (first | omega | (simp; done) | (simp; omega) | fail)) | (refine Below.alloc ?_ ?_ _; rotate_left; · (first | omega | (simp; done) | (simp; omega) | fail)) | refine Below.drew ?_ | exact HB8.out | fail)))
    have h0 : w9.heap[w.heap.size]? = some (.cells #[.int .i64 m.fmt, .int .i64 m.ppr, .int .i64 m.sheets, .bool m.half, S bs, .int .i64 co, .int .i64 ro, S nm, .int .i64 a, .int .i64 b, .int .i64 c, .int .i64 d, .int .i64 tr, lv] 83 (0, 0)) := by rw [hw9]; exact (by repeat (first | (refine (heap_setCell_past _ _ _ _ ?_).trans ?_; · (first | omega | (simp; done) | (simp; omega) | fail)) | (refine (heap_alloc_past _ _ _ ?_).trans ?_; · (first | omega | (simp; done) | (simp; omega) | fail)) | exact H08.out | fail))
    have h1 : w9.heap[w.heap.size + 1]? = some (.cells #[.int .i64 (xa : Int), .int .i64 (xb : Int)] 27 (0, 0)) := by rw [hw9]; first | exact H18.out | exact (by repeat (first | (refine (heap_setCell_past _ _ _ _ ?_).trans ?_; · (first | omega | (simp; done) | (simp; omega) | fail)) | (refine (heap_alloc_past _ _ _ ?_).trans ?_; · (first | omega | (simp; done) | (simp; omega) | fail)) | exact blk_set2 H18.out _ _ | fail))
    have h2 : w9.heap[w.heap.size + 1 + 1]? = some (.cells #[.int .i64 (xc : Int), .int .i64 (xd : Int)] 27 (0, 0)) := by rw [hw9]; first | exact H28.out | exact blk_set2 (by exact (by repeat (first | (refine (heap_setCell_past _ _ _ _ ?_).trans ?_; · (first | omega | (simp; done) | (simp; omega) | fail)) | (refine (heap_alloc_past _ _ _ ?_).trans ?_; · (first | omega | (simp; done) | (simp; omega) | fail)) | exact H28.out | fail))) _ _
    clear hw9 HB8 H08 H18 H28 c0 c1 d0 d1 f0 f1 g0 g1 p12
    have H19 := Lib.hid h1
    have H29 := Lib.hid h2
    have p12 := blk_cell h0 12
    have c0 := blk_cell h1 0; have c1 := blk_cell h1 1
    have f0 := blk_free h1 0; have f1 := blk_free h1 1
    have d0 := blk_cell h2 0; have d1 := blk_cell h2 1
    have g0 := blk_free h2 0; have g1 := blk_free h2 1
    clear h0 h1 h2
    go_upto_region 6 with fail
    obtain ⟨w10, hw10⟩ : ∃ w10, w10 = (w9.setCell ⟨w.heap.size + 1, 0, none⟩ (.int .i64 (((xa : Int) : Int) - tr))).setCell ⟨w.heap.size + 1 + 1, 0, none⟩ (.int .i64 (((xc : Int) : Int) - 2 * tr)) := ⟨_, rfl⟩
    rw [← hw10]
    have HB10 := Lib.hid (show Below w.heap.size w w10 by rw [hw10]; exact (by repeat (first | (refine Below.setCell ?_ ?_ _; rotate_left; · (first | omega | (simp; done) | (simp; omega) | fail)) | (refine Below.alloc ?_ ?_ _; rotate_left; · (first | omega | (simp; done) | (simp; omega) | fail)) | refine Below.drew ?_ | exact HB9.out | fail)))
    have h1 : w10.heap[w.heap.size + 1]? = some (.cells #[.int .i64 (((xa : Int) : Int) - tr), .int .i64 (xb : Int)] 27 (0, 0)) := by
      rw [hw10]
      have := blk_set H19.out 0 (.int .i64 (((xa : Int) : Int) - tr))
      exact (by repeat (first | (refine (heap_setCell_past _ _ _ _ ?_).trans ?_; · (first | omega | (simp; done) | (simp; omega) | fail)) | (refine (heap_alloc_past _ _ _ ?_).trans ?_; · (first | omega | (simp; done) | (simp; omega) | fail)) | exact this | fail))
    have h2 : w10.heap[w.heap.size + 1 + 1]? = some (.cells #[.int .i64 (((xc : Int) : Int) - 2 * tr), .int .i64 (xd : Int)] 27 (0, 0)) := by
      rw [hw10]
      have h29 : (w9.setCell ⟨w.heap.size + 1, 0, none⟩ (.int .i64 (((xa : Int) : Int) - tr))).heap[w.heap.size + 1 + 1]? = some (.cells #[.int .i64 (xc : Int), .int .i64 (xd : Int)] 27 (0, 0)) := by exact (by repeat (first | (refine (heap_setCell_past _ _ _ _ ?_).trans ?_; · (first | omega | (simp; done) | (simp; omega) | fail)) | (refine (heap_alloc_past _ _ _ ?_).trans ?_; · (first | omega | (simp; done) | (simp; omega) | fail)) | exact H29.out | fail))
      exact blk_set h29 0 (.int .i64 (((xc : Int) : Int) - 2 * tr))
    clear hw10 HB9 H19 H29 c0 c1 d0 d1 f0 f1 g0 g1 p12
    have H110 := Lib.hid h1
    have H210 := Lib.hid h2
    have c0 := blk_cell h1 0; have c1 := blk_cell h1 1
    have f0 := blk_free h1 0; have f1 := blk_free h1 1
    have d0 := blk_cell h2 0; have d1 := blk_cell h2 1
    have g0 := blk_free h2 0; have g1 := blk_free h2 1
    clear h1 h2
    go_region
    obtain ⟨w11, hw11⟩ : ∃ w11, w11 = ((((w10.setCell ⟨w.heap.size + 1, 0, none⟩ (.int .i64 (((xa : Int) : Int) - tr))).setCell ⟨w.heap.size + 1, 1, none⟩ (.int .i64 (xb : Int))).setCell ⟨w.heap.size + 1 + 1, 0, none⟩ (.int .i64 (((xc : Int) : Int) - 2 * tr))).setCell ⟨w.heap.size + 1 + 1, 1, none⟩ (.int .i64 (xd : Int))) := ⟨_, rfl⟩
    rw [← hw11]
    have h1 : w11.drew.heap[w.heap.size + 1]? = some (.cells #[.int .i64 (((xa : Int) : Int) - tr), .int .i64 (xb : Int)] 27 (0, 0)) := by
      show w11.heap[w.heap.size + 1]? = _
      rw [hw11]
      exact (by repeat (first | (refine (heap_setCell_past _ _ _ _ ?_).trans ?_; · (first | omega | (simp; done) | (simp; omega) | fail)) | (refine (heap_alloc_past _ _ _ ?_).trans ?_; · (first | omega | (simp; done) | (simp; omega) | fail)) | exact blk_set2 H110.out _ _ | fail))
    have h2 : w11.drew.heap[w.heap.size + 1 + 1]? = some (.cells #[.int .i64 (((xc : Int) : Int) - 2 * tr), .int .i64 (xd : Int)] 27 (0, 0)) := by
      show w11.heap[w.heap.size + 1 + 1]? = _
      rw [hw11]
      exact blk_set2 (by exact (by repeat (first | (refine (heap_setCell_past _ _ _ _ ?_).trans ?_; · (first | omega | (simp; done) | (simp; omega) | fail)) | (refine (heap_alloc_past _ _ _ ?_).trans ?_; · (first | omega | (simp; done) | (simp; omega) | fail)) | exact H210.out | fail))) _ _
    have HB11 := Lib.hid (show Below w.heap.size w w11.drew by refine Below.drew ?_; rw [hw11]; exact (by repeat (first | (refine Below.setCell ?_ ?_ _; rotate_left; · (first | omega | (simp; done) | (simp; omega) | fail)) | (refine Below.alloc ?_ ?_ _; rotate_left; · (first | omega | (simp; done) | (simp; omega) | fail)) | refine Below.drew ?_ | exact HB10.out | fail)))
    clear hw11 c0 c1 d0 d1 f0 f1 g0 g1 HB10 H110 H210
    have y0 := blk_cell h1 0
    have y1 := blk_cell h1 1
    have y2 := blk_cell h2 0
    have y3 := blk_cell h2 1
    clear h1 h2
    go_wp2_with fail
    exact bodyPost_ret (v := .tuple #[.agg #[.int .i64 (((xa : Int) : Int) - tr), .int .i64 (xb : Int)], .agg #[.int .i64 (((xc : Int) : Int) - 2 * tr), .int .i64 (xd : Int)]]) (by simp [results, Tryz.results94, go_sem, y0, y1, y2, y3]) rfl ⟨rfl, HB11.out⟩
  | false =>
    go_upto_region 4 with fail
    obtain ⟨w9, hw9⟩ : ∃ w9, w9 = ((((w8.setCell ⟨w.heap.size + 1, 0, none⟩ (.int .i64 xc)).setCell ⟨w.heap.size + 1, 1, none⟩ (.int .i64 xd)).setCell ⟨w.heap.size + 1 + 1, 0, none⟩ (.int .i64 xa)).setCell ⟨w.heap.size + 1 + 1, 1, none⟩ (.int .i64 xb)) := ⟨_, rfl⟩
    first | rw [← hw9] | skip
    have HB9 := Lib.hid (show Below w.heap.size w w9 by rw [hw9]; exact (by repeat (first | (refine Below.setCell ?_ ?_ _; rotate_left; · (first | omega | (simp; done) | (simp; omega) | fail)) | (refine Below.alloc ?_ ?_ _; rotate_left; · (first | omega | (simp; done) | (simp; omega) | fail)) | refine Below.drew ?_ | exact HB8.out | fail)))
    have h0 : w9.heap[w.heap.size]? = some (.cells #[.int .i64 m.fmt, .int .i64 m.ppr, .int .i64 m.sheets, .bool m.half, S bs, .int .i64 co, .int .i64 ro, S nm, .int .i64 a, .int .i64 b, .int .i64 c, .int .i64 d, .int .i64 tr, lv] 83 (0, 0)) := by rw [hw9]; exact (by repeat (first | (refine (heap_setCell_past _ _ _ _ ?_).trans ?_; · (first | omega | (simp; done) | (simp; omega) | fail)) | (refine (heap_alloc_past _ _ _ ?_).trans ?_; · (first | omega | (simp; done) | (simp; omega) | fail)) | exact H08.out | fail))
    have h1 : w9.heap[w.heap.size + 1]? = some (.cells #[.int .i64 (xc : Int), .int .i64 (xd : Int)] 27 (0, 0)) := by rw [hw9]; first | exact H18.out | exact (by repeat (first | (refine (heap_setCell_past _ _ _ _ ?_).trans ?_; · (first | omega | (simp; done) | (simp; omega) | fail)) | (refine (heap_alloc_past _ _ _ ?_).trans ?_; · (first | omega | (simp; done) | (simp; omega) | fail)) | exact blk_set2 H18.out _ _ | fail))
    have h2 : w9.heap[w.heap.size + 1 + 1]? = some (.cells #[.int .i64 (xa : Int), .int .i64 (xb : Int)] 27 (0, 0)) := by rw [hw9]; first | exact H28.out | exact blk_set2 (by exact (by repeat (first | (refine (heap_setCell_past _ _ _ _ ?_).trans ?_; · (first | omega | (simp; done) | (simp; omega) | fail)) | (refine (heap_alloc_past _ _ _ ?_).trans ?_; · (first | omega | (simp; done) | (simp; omega) | fail)) | exact H28.out | fail))) _ _
    clear hw9 HB8 H08 H18 H28 c0 c1 d0 d1 f0 f1 g0 g1 p12
    have H19 := Lib.hid h1
    have H29 := Lib.hid h2
    have p12 := blk_cell h0 12
    have c0 := blk_cell h1 0; have c1 := blk_cell h1 1
    have f0 := blk_free h1 0; have f1 := blk_free h1 1
    have d0 := blk_cell h2 0; have d1 := blk_cell h2 1
    have g0 := blk_free h2 0; have g1 := blk_free h2 1
    clear h0 h1 h2
    go_upto_region 6 with fail
    obtain ⟨w10, hw10⟩ : ∃ w10, w10 = (w9.setCell ⟨w.heap.size + 1, 0, none⟩ (.int .i64 (((xc : Int) : Int) - tr))).setCell ⟨w.heap.size + 1 + 1, 0, none⟩ (.int .i64 (((xa : Int) : Int) - 2 * tr)) := ⟨_, rfl⟩
    rw [← hw10]
    have HB10 := Lib.hid (show Below w.heap.size w w10 by rw [hw10]; exact (by repeat (first | (refine Below.setCell ?_ ?_ _; rotate_left; · (first | omega | (simp; done) | (simp; omega) | fail)) | (refine Below.alloc ?_ ?_ _; rotate_left; · (first | omega | (simp; done) | (simp; omega) | fail)) | refine Below.drew ?_ | exact HB9.out | fail)))
    have h1 : w10.heap[w.heap.size + 1]? = some (.cells #[.int .i64 (((xc : Int) : Int) - tr), .int .i64 (xd : Int)] 27 (0, 0)) := by
      rw [hw10]
      have := blk_set H19.out 0 (.int .i64 (((xc : Int) : Int) - tr))
      exact (by repeat (first | (refine (heap_setCell_past _ _ _ _ ?_).trans ?_; · (first | omega | (simp; done) | (simp; omega) | fail)) | (refine (heap_alloc_past _ _ _ ?_).trans ?_; · (first | omega | (simp; done) | (simp; omega) | fail)) | exact this | fail))
    have h2 : w10.heap[w.heap.size + 1 + 1]? = some (.cells #[.int .i64 (((xa : Int) : Int) - 2 * tr), .int .i64 (xb : Int)] 27 (0, 0)) := by
      rw [hw10]
      have h29 : (w9.setCell ⟨w.heap.size + 1, 0, none⟩ (.int .i64 (((xc : Int) : Int) - tr))).heap[w.heap.size + 1 + 1]? = some (.cells #[.int .i64 (xa : Int), .int .i64 (xb : Int)] 27 (0, 0)) := by exact (by repeat (first | (refine (heap_setCell_past _ _ _ _ ?_).trans ?_; · (first | omega | (simp; done) | (simp; omega) | fail)) | (refine (heap_alloc_past _ _ _ ?_).trans ?_; · (first | omega | (simp; done) | (simp; omega) | fail)) | exact H29.out | fail))
      exact blk_set h29 0 (.int .i64 (((xa : Int) : Int) - 2 * tr))
    clear hw10 HB9 H19 H29 c0 c1 d0 d1 f0 f1 g0 g1 p12
    have H110 := Lib.hid h1
    have H210 := Lib.hid h2
    have c0 := blk_cell h1 0; have c1 := blk_cell h1 1
    have f0 := blk_free h1 0; have f1 := blk_free h1 1
    have d0 := blk_cell h2 0; have d1 := blk_cell h2 1
    have g0 := blk_free h2 0; have g1 := blk_free h2 1
    clear h1 h2
    go_region
    obtain ⟨w11, hw11⟩ : ∃ w11, w11 = ((((w10.setCell ⟨w.heap.size + 1, 0, none⟩ (.int .i64 (((xc : Int) : Int) - tr))).setCell ⟨w.heap.size + 1, 1, none⟩ (.int .i64 (xd : Int))).setCell ⟨w.heap.size + 1 + 1, 0, none⟩ (.int .i64 (((xa : Int) : Int) - 2 * tr))).setCell ⟨w.heap.size + 1 + 1, 1, none⟩ (.int .i64 (xb : Int))) := ⟨_, rfl⟩
    rw [← hw11]
    have h1 : w11.drew.heap[w.heap.size + 1]? = some (.cells #[.int .i64 (((xc : Int) : Int) - tr), .int .i64 (xd : Int)] 27 (0, 0)) := by
      show w11.heap[w.heap.size + 1]? = _
      rw [hw11]
      exact (by repeat (first | (refine (heap_setCell_past _ _ _ _ ?_).trans ?_; · (first | omega | (simp; done) | (simp; omega) | fail)) | (refine (heap_alloc_past _ _ _ ?_).trans ?_; · (first | omega | (simp; done) | (simp; omega) | fail)) | exact blk_set2 H110.out _ _ | fail))
    have h2 : w11.drew.heap[w.heap.size + 1 + 1]? = some (.cells #[.int .i64 (((xa : Int) : Int) - 2 * tr), .int .i64 (xb : Int)] 27 (0, 0)) := by
      show w11.heap[w.heap.size + 1 + 1]? = _
      rw [hw11]
      exact blk_set2 (by exact (by repeat (first | (refine (heap_setCell_past _ _ _ _ ?_).trans ?_; · (first | omega | (simp; done) | (simp; omega) | fail)) | (refine (heap_alloc_past _ _ _ ?_).trans ?_; · (first | omega | (simp; done) | (simp; omega) | fail)) | exact H210.out | fail))) _ _
    have HB11 := Lib.hid (show Below w.heap.size w w11.drew by refine Below.drew ?_; rw [hw11]; exact (by repeat (first | (refine Below.setCell ?_ ?_ _; rotate_left; · (first | omega | (simp; done) | (simp; omega) | fail)) | (refine Below.alloc ?_ ?_ _; rotate_left; · (first | omega | (simp; done) | (simp; omega) | fail)) | refine Below.drew ?_ | exact HB10.out | fail)))
    clear hw11 c0 c1 d0 d1 f0 f1 g0 g1 HB10 H110 H210
    have y0 := blk_cell h1 0
    have y1 := blk_cell h1 1
    have y2 := blk_cell h2 0
    have y3 := blk_cell h2 1
    clear h1 h2
    go_wp2_with fail
    exact bodyPost_ret (v := .tuple #[.agg #[.int .i64 (((xc : Int) : Int) - tr), .int .i64 (xd : Int)], .agg #[.int .i64 (((xa : Int) : Int) - 2 * tr), .int .i64 (xb : Int)]]) (by simp [results, Tryz.results94, go_sem, y0, y1, y2, y3]) rfl ⟨rfl, HB11.out⟩
end Go.Proofs.YtnhacghjoikgpaaGreatDoor
