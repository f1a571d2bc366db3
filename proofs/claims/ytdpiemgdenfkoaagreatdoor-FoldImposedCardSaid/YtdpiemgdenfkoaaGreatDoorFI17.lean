/- The parts Uq, Ur, Us, Ac of the proof, joined. It holds without conditions of its own. -/
import Derived.Test.YtdpiemgdenfkoaaGreatDoorFI16
import Derived.Test.YtdpiemgdenfkoaaGreatDoorFI15
import Derived.Deep.Cut
import Derived.Test.YtdpiemgdenfkoaaGreatDoorFI11
import Derived.Test.YtdpiemgdenfkoaaGreatDoorFI8
import Derived.Shelf.RegionOpen
/- Each page is there once: four sheets of four folds. -/
namespace Go.Proofs.YtdpiemgdenfkoaaGreatDoor
set_option linter.unusedSimpArgs false
set_option linter.unusedVariables false
set_option maxRecDepth 100000 in
theorem imposed_44 : ∀ f ∈ (foldsOf 4).take 8, imposedB (leavesF f 4 false) (rowsF f) (colsF f) 4 = true := by decide +kernel
set_option maxRecDepth 100000 in
theorem imposed_45 : ∀ f ∈ (foldsOf 4).drop 8, imposedB (leavesF f 4 false) (rowsF f) (colsF f) 4 = true := by decide +kernel
end Go.Proofs.YtdpiemgdenfkoaaGreatDoor

/- What is known of the formes of a way of making; a press with an error has none. -/
namespace Go.Proofs.YtdpiemgdenfkoaaGreatDoor
set_option linter.unusedSimpArgs false
set_option linter.unusedVariables false
open Go Go.RowKit Go.Sort Go.BigFrame

theorem visK_len (l : List Fl) (rows cols s : Nat) : ∀ k, (visK l rows cols s k).length = 2 * k
  | 0 => rfl
  | k + 1 => by
    rw [visK_succ, List.length_append, visK_len l rows cols s k]
    unfold pairI
    simp only [List.length_cons, List.length_nil]
    omega
theorem visS_len (l : List Fl) (rows cols : Nat) : ∀ n, (visS l rows cols n).length = n * (2 * (rows * cols))
  | 0 => by simp [visS]
  | n + 1 => by rw [visS_succ, List.length_append, visS_len l rows cols n, visK_len, Nat.add_mul, Nat.one_mul]
theorem imposed_all {f : Fds} (h1 : 1 ≤ f.length) (h2 : f.length ≤ 4) {n : Nat} (hn : n ∈ [1, 2, 3, 4]) : imposedB (leavesF f n false) (rowsF f) (colsF f) n = true := by
  have hm := allFolds_mem h1 h2
  unfold allFolds at hm
  simp only [List.mem_append] at hm
  rcases hm with ((hm | hm) | hm) | hm
  · exact imposed_1 f (List.mem_append.2 (Or.inl hm)) n hn
  · exact imposed_1 f (List.mem_append.2 (Or.inr hm)) n hn
  · exact imposed_3 f hm n hn
  · simp only [List.mem_cons, List.not_mem_nil, or_false] at hn
    rcases hn with rfl | rfl | rfl | rfl
    · exact imposed_41 f hm 1 (by simp)
    · exact imposed_41 f hm 2 (by simp)
    · exact imposed_43 f hm
    · rw [← List.take_append_drop 8 (foldsOf 4), List.mem_append] at hm
      rcases hm with hm | hm
      · exact imposed_44 f hm
      · exact imposed_45 f hm
theorem imposed_halves {f : Fds} (h1 : 2 ≤ f.length) (h2 : f.length ≤ 4) : imposedB (leavesF f 1 true) (rowsF (madeF f true)) (colsF (madeF f true)) 1 = true := by
  have hm := allFolds_mem (show 1 ≤ f.length by omega) h2
  unfold allFolds at hm
  simp only [List.mem_append] at hm
  have hl1 : ∀ g ∈ foldsOf 1, g.length = 1 := by decide
  rcases hm with ((hm | hm) | hm) | hm
  · have := hl1 f hm; omega
  · exact imposed_half f hm
  · exact imposed_h3 f (List.mem_append.2 (Or.inl hm))
  · exact imposed_h3 f (List.mem_append.2 (Or.inr hm))
theorem Fine.imposed {p : Prs} {m : Mkw} {f : Fmt} (h : Fine p m f) : imposedB (leavesW m f) (rowsF (madeF (fdsB f.folds) m.half)) (colsF (madeF (fdsB f.folds) m.half)) m.sheets.toNat = true := by
  obtain ⟨h1, h2⟩ := h.mem
  unfold leavesW
  cases hh : m.half with
  | false => exact imposed_all (by unfold fdsB; simpa using h.len1) (by unfold fdsB; simpa using h.len4) h2
  | true =>
    obtain ⟨h3, h4⟩ := h.two hh
    rw [h3]
    exact imposed_halves h4 (by unfold fdsB; simpa using h.len4)
/-- What the walk needs, in parts. -/
structure Impd (l : List Fl) (rows cols n : Nat) : Prop where
  fresh : ∀ s k, s < n → k < rows * cols → ∀ a b, formeF l rows cols s false = a → formeF l rows cols s true = b → ∀ x y, a[k]? = some x → b[k]? = some y →
    x.natAbs ∉ (visS l rows cols s ++ visK l rows cols s k).map (·.1) ∧ y.natAbs ∉ (visS l rows cols s ++ visK l rows cols s k ++ [(x.natAbs, 2 * s)]).map (·.1) ∧
    1 ≤ x.natAbs ∧ x.natAbs ≤ 2 * l.length ∧ 1 ≤ y.natAbs ∧ y.natAbs ≤ 2 * l.length ∧ backB x y = true
  many : (visS l rows cols n).length = 2 * l.length
  at_ : ∀ i a, l[i]? = some a → whF (visS l rows cols n) (2 * i + 1) / 2 = a.sheet ∧ 0 ≤ whF (visS l rows cols n) (2 * i + 1) ∧ ∀ b, l[i + 1]? = some b → a.sheet = b.sheet → whF (visS l rows cols n) (2 * i + 2) = whF (visS l rows cols n) (2 * i + 3)
theorem forme_len (l : List Fl) (rows cols s : Nat) (inner : Bool) : (formeF l rows cols s inner).length = rows * cols := by
  rw [← foA_is, foA_len]
theorem impd_of {l : List Fl} {rows cols n : Nat} (h : imposedB l rows cols n = true) : Impd l rows cols n := by
  unfold imposedB at h
  simp only [Bool.and_eq_true] at h
  obtain ⟨⟨⟨⟨h1, h2⟩, h3⟩, h4⟩, h5⟩ := h
  refine ⟨fun s k hs hk a b ha hb x y hx hy => ?_, by simpa using h3, fun i a ha => ?_⟩
  · obtain ⟨r1, e1⟩ := flat_part (fun s => visK l rows cols s (rows * cols)) n s hs
    obtain ⟨r2, e2⟩ := flat_part (fun k => pairI l rows cols s k) (rows * cols) k hk
    have ep : pairI l rows cols s k = [(x.natAbs, 2 * s), (y.natAbs, 2 * s + 1)] := by
      unfold pairI
      rw [ha, hb, hx, hy]; rfl
    have ev : visS l rows cols n = (visS l rows cols s ++ visK l rows cols s k) ++ ((x.natAbs, 2 * s) :: ((y.natAbs, 2 * s + 1) :: (r2 ++ r1))) := by
      show (List.range n).flatMap _ = _
      rw [e1]
      show _ ++ ((List.range (rows * cols)).flatMap (fun k => pairI l rows cols s k) ++ r1) = _
      rw [e2, ep]
      unfold visS visK
      simp
    have hall := List.all_eq_true.1 h2
    rw [ev] at h1 hall
    rw [List.map_append, List.map_cons, List.map_cons] at h1
    have f1 := freshB_at _ _ _ _ h1
    have h1' : freshB ((visS l rows cols s ++ visK l rows cols s k ++ [(x.natAbs, 2 * s)]).map (·.1) ++ y.natAbs :: (r2 ++ r1).map (·.1)) [] = true := by
      rw [List.map_append (l₁ := visS l rows cols s ++ visK l rows cols s k), List.append_assoc]
      exact h1
    have f2 := freshB_at _ _ _ _ h1'
    have b1 := hall (x.natAbs, 2 * s) (by simp)
    have b2 := hall (y.natAbs, 2 * s + 1) (by simp)
    simp only [Bool.and_eq_true, decide_eq_true_eq] at b1 b2
    have hbk := List.all_eq_true.1 (List.all_eq_true.1 h4 s (List.mem_range.2 hs)) k (List.mem_range.2 hk)
    rw [ha, hb, hx, hy] at hbk
    exact ⟨f1.2, f2.2, b1.1, b1.2, b2.1, b2.2, hbk⟩
  · have := List.all_eq_true.1 h5 i (List.mem_range.2 (List.getElem?_eq_some_iff.1 ha).1)
    rw [ha] at this
    simp only [Bool.and_eq_true, decide_eq_true_eq] at this
    refine ⟨this.1.1, this.1.2, fun b hb e => ?_⟩
    have h6 := this.2
    rw [hb] at h6
    simp only [Bool.or_eq_true, decide_eq_true_eq, bne_iff_ne, ne_eq] at h6
    rcases h6 with h6 | h6
    · exact absurd e h6
    · exact h6
end Go.Proofs.YtdpiemgdenfkoaaGreatDoor

/- Presses with an error: no way of making is opened. -/
namespace Go.Proofs.YtdpiemgdenfkoaaGreatDoor
set_option linter.unusedSimpArgs false
set_option linter.unusedVariables false
open Go Go.RowKit Go.Sort Go.BigFrame

abbrev wayZ : Array Value := #[.int .i64 0, .int .i64 0, .int .i64 0, .bool false, S [], .int .i64 0, .int .i64 0, S [], .int .i64 0, .int .i64 0, .int .i64 0, .int .i64 0, .int .i64 0, .slice none 0 0]
set_option maxRecDepth 100000 in
set_option maxHeartbeats 2000000 in
theorem openWay_bad (p : Prs) (m : Mkw) (vp : Value) (w : World) (hp : PrsAt w.heap.size w vp p) (he : errP p ≠ 0) :
    Calls Tryz.prog 50 #[vp, mkwV m] w fun e w' => e = .returned (.tuple #[.agg wayZ, .int .i64 (errP p)]) ∧ Below w.heap.size w w' := by
  have HP := Lib.hid hp
  obtain ⟨fv, pv, rfl, ⟨a, cap, rfl, -⟩, ⟨a2, cap2, rfl, -⟩, -⟩ := hp
  obtain ⟨n1, hn1⟩ : ∃ n, n = p.fmts.length := ⟨_, rfl⟩
  obtain ⟨n2, hn2⟩ : ∃ n, n = p.pprs.length := ⟨_, rfl⟩
  rw [← hn1, ← hn2] at HP ⊢
  have hO : openP p (.agg #[.slice a n1 cap, .slice a2 n2 cap2, .int .i64 p.trim, .int .i64 p.sheets]) = .agg #[.slice none 0 0, .slice none 0 0, .int .i64 0, .int .i64 0] := by unfold openP; rw [if_neg he]
  obtain ⟨z, hz⟩ : ∃ z, z = errP p := ⟨_, rfl⟩
  have hz0 : (z != 0) = true := by rw [hz]; simpa using he
  rw [← hz]
  have HO := Lib.hid hO
  have HZ := Lib.hid hz
  clear hO hz hn1 hn2 he
  go_enter Tryz.func50, Tryz.ntmps50
  go_wp2_with fail
  refine (foldOpen_any p _ _ (HP.out.later (by exact (by repeat (first | exact Below.refl _ _ | assumption | (refine Below.alloc ?_ ?_ _; rotate_left; · (first | omega | (simp; done) | (simp; omega) | fail)) | (refine Below.setCell ?_ ?_ _; rotate_left; · (first | omega | (simp; done) | (simp; omega) | fail)) | refine Below.drew ?_ | fail))))).mono ?_
  rintro e w2 ⟨rfl, hb2⟩
  rw [HO.out, ← HZ.out]
  have hb0 : Below w.heap.size w w2 := Below.trans (by exact (by repeat (first | exact Below.refl _ _ | assumption | (refine Below.alloc ?_ ?_ _; rotate_left; · (first | omega | (simp; done) | (simp; omega) | fail)) | (refine Below.setCell ?_ ?_ _; rotate_left; · (first | omega | (simp; done) | (simp; omega) | fail)) | refine Below.drew ?_ | fail))) (hb2.mono (by simp; try omega))
  have b3 : w2.heap[w.heap.size + 2]? = some (.cells #[.int .i64 0, .int .i64 0, .int .i64 0, .bool false, S [], .int .i64 0, .int .i64 0, S [], .int .i64 0, .int .i64 0, .int .i64 0, .int .i64 0, .int .i64 0, .slice none 0 0] 107) := blk_later hb2 (by repeat (first | exact heap_alloc_at _ _ _ (by (first | omega | (simp; done) | (simp; omega) | (simp at *; omega) | fail)) | assumption | rw [heap_alloc_past _ _ _ (by (first | omega | (simp; done) | (simp; omega) | (simp at *; omega) | fail))] | rw [heap_setCell_past _ _ _ _ (by (first | omega | (simp; done) | (simp; omega) | (simp at *; omega) | fail))] | fail))
  clear hb2
  have hz2 := hb0.size
  have hlt := blk_lt b3
  have t3 : (w2.alloc (.cells #[.slice none 0 0, .slice none 0 0, .int .i64 0, .int .i64 0] 85)).heap[w.heap.size + 2]? = some (.cells #[.int .i64 0, .int .i64 0, .int .i64 0, .bool false, S [], .int .i64 0, .int .i64 0, S [], .int .i64 0, .int .i64 0, .int .i64 0, .int .i64 0, .int .i64 0, .slice none 0 0] 107) := (heap_alloc_past _ _ _ (by omega)).trans b3
  have hb3 : Below w.heap.size w (w2.alloc (.cells #[.slice none 0 0, .slice none 0 0, .int .i64 0, .int .i64 0] 85)) := hb0.alloc hz2 _
  clear b3
  go_upto_region 2 with fail
  revert t3 hb3
  generalize (w2.alloc (.cells #[.slice none 0 0, .slice none 0 0, .int .i64 0, .int .i64 0] 85)) = w3
  intro t3 hb3
  clear hb0 hz2 hlt
  have e0 := blk_cell t3 0
  have e1 := blk_cell t3 1
  have e2 := blk_cell t3 2
  have e3 := blk_cell t3 3
  have e4 := blk_cell t3 4
  have e5 := blk_cell t3 5
  have e6 := blk_cell t3 6
  have e7 := blk_cell t3 7
  have e8 := blk_cell t3 8
  have e9 := blk_cell t3 9
  have e10 := blk_cell t3 10
  have e11 := blk_cell t3 11
  have e12 := blk_cell t3 12
  have e13 := blk_cell t3 13
  have z0 := blk_free t3 0
  have z1 := blk_free t3 1
  have z2 := blk_free t3 2
  have z3 := blk_free t3 3
  have z4 := blk_free t3 4
  have z5 := blk_free t3 5
  have z6 := blk_free t3 6
  have z7 := blk_free t3 7
  have z8 := blk_free t3 8
  have z9 := blk_free t3 9
  have z10 := blk_free t3 10
  have z11 := blk_free t3 11
  have z12 := blk_free t3 12
  have z13 := blk_free t3 13
  go_wp2_with fail
  have b9 : ((((((((((((((w3.setCell ⟨w.heap.size + 1 + 1, 0, none⟩ (.int .i64 0)).setCell ⟨w.heap.size + 1 + 1, 1, none⟩ (.int .i64 0)).setCell ⟨w.heap.size + 1 + 1, 2, none⟩ (.int .i64 0)).setCell ⟨w.heap.size + 1 + 1, 3, none⟩ (.bool false)).setCell ⟨w.heap.size + 1 + 1, 4, none⟩ (S [])).setCell ⟨w.heap.size + 1 + 1, 5, none⟩ (.int .i64 0)).setCell ⟨w.heap.size + 1 + 1, 6, none⟩ (.int .i64 0)).setCell ⟨w.heap.size + 1 + 1, 7, none⟩ (S [])).setCell ⟨w.heap.size + 1 + 1, 8, none⟩ (.int .i64 0)).setCell ⟨w.heap.size + 1 + 1, 9, none⟩ (.int .i64 0)).setCell ⟨w.heap.size + 1 + 1, 10, none⟩ (.int .i64 0)).setCell ⟨w.heap.size + 1 + 1, 11, none⟩ (.int .i64 0)).setCell ⟨w.heap.size + 1 + 1, 12, none⟩ (.int .i64 0)).setCell ⟨w.heap.size + 1 + 1, 13, none⟩ (.slice none 0 0)).heap[w.heap.size + 1 + 1]? = some (.cells #[.int .i64 0, .int .i64 0, .int .i64 0, .bool false, S [], .int .i64 0, .int .i64 0, S [], .int .i64 0, .int .i64 0, .int .i64 0, .int .i64 0, .int .i64 0, .slice none 0 0] 107) := by simpa using (blk_set (blk_set (blk_set (blk_set (blk_set (blk_set (blk_set (blk_set (blk_set (blk_set (blk_set (blk_set (blk_set (blk_set t3 0 (.int .i64 0)) 1 (.int .i64 0)) 2 (.int .i64 0)) 3 (.bool false)) 4 (S [])) 5 (.int .i64 0)) 6 (.int .i64 0)) 7 (S [])) 8 (.int .i64 0)) 9 (.int .i64 0)) 10 (.int .i64 0)) 11 (.int .i64 0)) 12 (.int .i64 0)) 13 (.slice none 0 0))
  have hb9 : Below w.heap.size w ((((((((((((((w3.setCell ⟨w.heap.size + 1 + 1, 0, none⟩ (.int .i64 0)).setCell ⟨w.heap.size + 1 + 1, 1, none⟩ (.int .i64 0)).setCell ⟨w.heap.size + 1 + 1, 2, none⟩ (.int .i64 0)).setCell ⟨w.heap.size + 1 + 1, 3, none⟩ (.bool false)).setCell ⟨w.heap.size + 1 + 1, 4, none⟩ (S [])).setCell ⟨w.heap.size + 1 + 1, 5, none⟩ (.int .i64 0)).setCell ⟨w.heap.size + 1 + 1, 6, none⟩ (.int .i64 0)).setCell ⟨w.heap.size + 1 + 1, 7, none⟩ (S [])).setCell ⟨w.heap.size + 1 + 1, 8, none⟩ (.int .i64 0)).setCell ⟨w.heap.size + 1 + 1, 9, none⟩ (.int .i64 0)).setCell ⟨w.heap.size + 1 + 1, 10, none⟩ (.int .i64 0)).setCell ⟨w.heap.size + 1 + 1, 11, none⟩ (.int .i64 0)).setCell ⟨w.heap.size + 1 + 1, 12, none⟩ (.int .i64 0)).setCell ⟨w.heap.size + 1 + 1, 13, none⟩ (.slice none 0 0)) := by exact (by repeat (first | (refine Below.setCell ?_ ?_ _; rotate_left; · (first | omega | (simp; done) | (simp; omega) | fail)) | (refine Below.alloc ?_ ?_ _; rotate_left; · (first | omega | (simp; done) | (simp; omega) | fail)) | refine Below.drew ?_ | exact hb3 | fail))
  have y0 := blk_cell b9 0
  have y1 := blk_cell b9 1
  have y2 := blk_cell b9 2
  have y3 := blk_cell b9 3
  have y4 := blk_cell b9 4
  have y5 := blk_cell b9 5
  have y6 := blk_cell b9 6
  have y7 := blk_cell b9 7
  have y8 := blk_cell b9 8
  have y9 := blk_cell b9 9
  have y10 := blk_cell b9 10
  have y11 := blk_cell b9 11
  have y12 := blk_cell b9 12
  have y13 := blk_cell b9 13
  exact bodyPost_ret (v := .tuple #[.agg #[.int .i64 0, .int .i64 0, .int .i64 0, .bool false, S [], .int .i64 0, .int .i64 0, S [], .int .i64 0, .int .i64 0, .int .i64 0, .int .i64 0, .int .i64 0, .slice none 0 0], .int .i64 z]) (by simp [results, Tryz.results50, go_sem, y0, y1, y2, y3, y4, y5, y6, y7, y8, y9, y10, y11, y12, y13]) rfl ⟨rfl, hb9⟩

set_option maxRecDepth 100000 in
set_option maxHeartbeats 2000000 in
theorem Forme_bad (p : Prs) (m : Mkw) (sh : Nat) (inner : Bool) (vp : Value) (w : World) (hp : PrsAt w.heap.size w vp p) (he : errP p ≠ 0) :
    Calls Tryz.prog 17 #[vp, mkwV m, .int .i64 sh, .bool inner] w fun e w' => e = .returned (.tuple #[.slice none 0 0, .int .i64 (errP p)]) ∧ Below w.heap.size w w' := by
  have HP := Lib.hid hp
  have HE := Lib.hid he
  obtain ⟨fv, pv, rfl, ⟨a, cap, rfl, -⟩, ⟨a2, cap2, rfl, -⟩, -⟩ := hp
  obtain ⟨n1, hn1⟩ : ∃ n, n = p.fmts.length := ⟨_, rfl⟩
  obtain ⟨n2, hn2⟩ : ∃ n, n = p.pprs.length := ⟨_, rfl⟩
  rw [← hn1, ← hn2] at HP ⊢
  obtain ⟨z, hz⟩ : ∃ z, z = errP p := ⟨_, rfl⟩
  have hz0 : (z != 0) = true := by rw [hz]; simpa using he
  rw [← hz]
  have HZ := Lib.hid hz
  clear hz hn1 hn2 he
  go_enter Tryz.func17, Tryz.ntmps17
  go_wp2_with fail
  refine (openWay_bad p m _ _ (HP.out.later (by exact (by repeat (first | exact Below.refl _ _ | assumption | (refine Below.alloc ?_ ?_ _; rotate_left; · (first | omega | (simp; done) | (simp; omega) | fail)) | (refine Below.setCell ?_ ?_ _; rotate_left; · (first | omega | (simp; done) | (simp; omega) | fail)) | refine Below.drew ?_ | fail)))) HE.out).mono ?_
  rintro e w2 ⟨rfl, hb⟩
  rw [← HZ.out]
  have hb0 : Below w.heap.size w w2 := Below.trans (by exact (by repeat (first | exact Below.refl _ _ | assumption | (refine Below.alloc ?_ ?_ _; rotate_left; · (first | omega | (simp; done) | (simp; omega) | fail)) | (refine Below.setCell ?_ ?_ _; rotate_left; · (first | omega | (simp; done) | (simp; omega) | fail)) | refine Below.drew ?_ | fail))) (hb.mono (by simp; try omega))
  have hz2 := hb0.size
  clear hb
  go_wp2_with fail
  go_ret2
  exact ⟨rfl, by exact (by repeat (first | (refine Below.setCell ?_ ?_ _; rotate_left; · (first | omega | (simp; done) | (simp; omega) | fail)) | (refine Below.alloc ?_ ?_ _; rotate_left; · (first | omega | (simp; done) | (simp; omega) | fail)) | refine Below.drew ?_ | exact hb0 | fail))⟩
end Go.Proofs.YtdpiemgdenfkoaaGreatDoor

/- The law's comparison of two lists of numbers. -/
namespace Go.Proofs.YtdpiemgdenfkoaaGreatDoor
set_option linter.unusedSimpArgs false
set_option linter.unusedVariables false
open Go Go.RowKit Go.Sort Go.BigFrame Go.Shelf
attribute [local go_sem] Oper.semAt_some putAll

theorem take_step {α : Type} {xs ys : List α} {k : Nat} {x y : α} (hx : xs[k]? = some x) (hy : ys[k]? = some y) (h : xs.take k = ys.take k) (e : x = y) : xs.take (k + 1) = ys.take (k + 1) := by
  rw [List.take_add_one, List.take_add_one, h, hx, hy, e]

set_option maxRecDepth 100000 in
set_option maxHeartbeats 1000000 in
theorem Ints_any (xs ys : List Int) (v u : Value) (w : World) (hv : IntsAt w v xs) (hu : IntsAt w u ys) (hl : xs.length < 1000000) (hl2 : ys.length < 1000000) :
    Calls Tryz.prog 19 #[v, u] w fun e w' => e = .returned (.bool (decide (xs = ys))) ∧ Below w.heap.size w w' := by
  obtain ⟨ax, capx, rfl, hx⟩ := hv
  obtain ⟨ay, capy, rfl, hy⟩ := hu
  have HX := Lib.hid hx
  have HY := Lib.hid hy
  have HB := Lib.hid (Below.refl w.heap.size w)
  clear hx hy
  obtain ⟨n, hn⟩ : ∃ n, n = xs.length := ⟨_, rfl⟩
  obtain ⟨m, hm⟩ : ∃ m, m = ys.length := ⟨_, rfl⟩
  rw [← hn] at hl
  rw [← hm] at hl2
  rw [← hn, ← hm]
  have HN := Lib.hid hn
  have HM := Lib.hid hm
  clear hn hm
  have hB : ∃ B : Bool, ((n : Int) == (m : Int)) = B ∧ Hid ((B = true → n = m) ∧ (B = false → xs ≠ ys)) := by
    by_cases e : n = m
    · exact ⟨true, by simp [e], fun _ => e, fun h => by cases h⟩
    · exact ⟨false, by simp; omega, (fun h => by cases h), fun _ h => e (by rw [HN.out, HM.out, h])⟩
  obtain ⟨B, hBe, HBB⟩ := hB
  go_enter Tryz.func19, Tryz.ntmps19
  go_wp2_with fail
  go_loopw [5, 6] (fun f i wr => ∃ (k q : Nat) (D : Bool), k ≤ n ∧ i = .int .i64 k ∧ wr = w.drewN q ∧ f = .bool D ∧ Hid (D = true → n = m ∧ xs.take k = ys.take k) ∧ Hid (D = false → xs ≠ ys)) (fun _ i _ => n - (intOf i).toNat)
  case atStart => exact ⟨0, 0, B, by omega, rfl, rfl, rfl, fun h => ⟨HBB.out.1 h, rfl⟩, HBB.out.2⟩
  case round =>
    obtain ⟨k, q, D, hk, rfl, rfl, rfl, hT, hF⟩ := hrel
    clear HBB hBe
    cases D with
    | false =>
      have HD : Hid (decide (xs = ys) = false) := decide_eq_false (hF.out rfl)
      clear hT hF
      go_wp2_with fail
      go_ret
      exact ⟨by rw [HD.out]; rfl, bdrewN HB.out _⟩
    | true =>
      obtain ⟨hnm, htk⟩ := hT.out rfl
      clear hT hF
      by_cases hlt : k < n
      · obtain ⟨x, hx⟩ : ∃ x, xs[k]? = some x := ⟨_, List.getElem?_eq_getElem (by have := HN.out; omega)⟩
        obtain ⟨y, hy⟩ : ∃ y, ys[k]? = some y := ⟨_, List.getElem?_eq_getElem (by have := HM.out; omega)⟩
        obtain ⟨gx, rfl, -, hcx⟩ := HX.out (fun e => by rw [e] at hx; cases hx)
        obtain ⟨gy, rfl, -, hcy⟩ := HY.out (fun e => by rw [e] at hy; cases hy)
        have x0 := hcx k x hx
        have y0 := hcy k y hy
        have HXX := Lib.hid hx
        have HYY := Lib.hid hy
        have HTK := Lib.hid htk
        have hkm : k < m := by omega
        clear hcx hcy hx hy htk
        go_wp2_with fail
        by_cases hxy : x = y
        · subst hxy
          go_quiet (fail)
          go_wp2_with fail
          go_roundw
          case rel => exact ⟨k + 1, q + nq, true, by omega, by go_num, rfl, by simp, (fun _ => ⟨hnm, take_step HXX.out HYY.out HTK.out rfl⟩), (fun h => by cases h)⟩
          case measure => simp [intOf]; omega
        · have HNE : Hid (xs ≠ ys) := fun e => by have h1 := HXX.out; rw [e, HYY.out] at h1; cases h1; exact hxy rfl
          go_quiet (fail)
          go_wp2_with fail
          go_roundw
          case rel => exact ⟨k + 1, q + nq, false, by omega, by go_num, rfl, by simp [hxy], (fun h => by cases h), (fun _ => HNE.out)⟩
          case measure => simp [intOf]; omega
      · have hkn : k = n := by omega
        have HD : Hid (decide (xs = ys) = true) := decide_eq_true (by
          have h1 := htk
          rw [hkn, HN.out, List.take_length, ← HN.out, hnm, HM.out, List.take_length] at h1
          exact h1)
        subst hkn
        clear htk
        go_wp2_with fail
        go_ret
        exact ⟨by rw [HD.out]; rfl, bdrewN HB.out _⟩

end Go.Proofs.YtdpiemgdenfkoaaGreatDoor
