/- The parts Qu, Qv of the proof, joined. It holds without conditions of its own. -/
import Derived.Test.YtimdmgkegdlafaaGreatDoorCH16
/- Differ: the data, and its errors. -/
namespace Go.Proofs.YtimdmgkegdlafaaGreatDoor
set_option linter.unusedSimpArgs false
set_option linter.unusedVariables false
open Go Go.RowKit Go.Sort Go.BigFrame Go.Shelf

abbrev Quad := Int × Int × Int × Int
/-- The name of a leaf. -/
def nameQ (b : Bk) (x : Lf) : Quad := match b.gs[x.gat]? with
  | some g => (g.round, g.letter, x.num, x.plus)
  | none => (0, 0, 0, 0)
def quadV (q : Quad) : List Value := [.int .i64 q.1, .int .i64 q.2.1, .int .i64 q.2.2.1, .int .i64 q.2.2.2]
def quadCells (qs : List Quad) : List Value := qs.flatMap quadV
def namesF (b : Bk) : List Quad := (lvs b).map (nameQ b)
/-- Where two lists differ first. -/
def diffAt (i : Nat) : List Quad → List Quad → Option Nat
  | [], [] => none
  | [], _ :: _ => some i
  | _ :: _, [] => some i
  | x :: xs, y :: ys => if x = y then diffAt (i + 1) xs ys else some i

theorem names_cells (b : Bk) : nmsCells b (lvs b) = quadCells (namesF b) := by
  unfold nmsCells quadCells namesF
  rw [List.flatMap_map]
  have : ∀ xs : List Lf, (∀ x ∈ xs, x ∈ lvs b) → xs.flatMap (nmCells b) = xs.flatMap fun x => quadV (nameQ b x) := fun xs => by
    induction xs with
    | nil => intro _; rfl
    | cons x xs ih =>
      intro h
      obtain ⟨g, hg, -⟩ := lvs_mem (h x (by simp))
      rw [List.flatMap_cons, List.flatMap_cons, ih fun y hy => h y (by simp [hy])]
      simp [nmCells, nameQ, quadV, hg]
  exact this _ fun _ h => h
theorem quad_at : ∀ {qs : List Quad} {i : Nat} {q : Quad}, qs[i]? = some q → (quadCells qs)[i * 4]? = some (.int .i64 q.1) ∧ (quadCells qs)[i * 4 + 1]? = some (.int .i64 q.2.1) ∧ (quadCells qs)[i * 4 + 2]? = some (.int .i64 q.2.2.1) ∧ (quadCells qs)[i * 4 + 3]? = some (.int .i64 q.2.2.2)
  | [], _, _, h => by cases h
  | x :: xs, 0, q, h => by
    simp only [List.getElem?_cons_zero, Option.some.injEq] at h
    subst h
    refine ⟨rfl, rfl, rfl, rfl⟩
  | x :: xs, i + 1, q, h => by
    have h' := quad_at (qs := xs) (i := i) (q := q) (by simpa using h)
    have e : ∀ c, (quadCells (x :: xs))[(i + 1) * 4 + c]? = (quadCells xs)[i * 4 + c]? := fun c => by
      show (quadV x ++ quadCells xs)[(i + 1) * 4 + c]? = _
      rw [List.getElem?_append_right (by simp [quadV]; omega)]
      congr 1
      simp [quadV]; omega
    have e0 := e 0
    simp only [Nat.add_zero] at e0
    rw [e0, e 1, e 2, e 3]
    exact h'

/-- A slice of names. -/
def NmsAt (W : World) (v : Value) (qs : List Quad) : Prop :=
  ∃ (a : Option Addr) (cap : Nat), v = .slice a qs.length cap ∧ (qs ≠ [] → ∃ g, a = some ⟨g, 0, none⟩ ∧ g < W.heap.size ∧
    ∀ i q, qs[i]? = some q → W.cell? ⟨g, i * 4, none⟩ = some (.int .i64 q.1) ∧ W.cell? ⟨g, i * 4 + 1, none⟩ = some (.int .i64 q.2.1) ∧ W.cell? ⟨g, i * 4 + 2, none⟩ = some (.int .i64 q.2.2.1) ∧ W.cell? ⟨g, i * 4 + 3, none⟩ = some (.int .i64 q.2.2.2))
theorem add_off (g j : Nat) : (⟨g, 0, none⟩ : Addr).add j = ⟨g, j, none⟩ := by unfold Addr.add; split <;> simp_all
theorem NmsAt.of_row {W : World} {base : Nat} {v : Value} {e : TypeId} {qs : List Quad} (h : W.ownsRow base e 4 v qs.length (quadCells qs)) : NmsAt W v qs := by
  rcases h.2 with ⟨rfl, h0⟩ | ⟨g, cap, cur, rfl, hb, hg, rest⟩
  · exact ⟨none, 0, by rw [h0], fun hne => absurd (List.length_eq_zero_iff.1 h0) hne⟩
  · refine ⟨_, cap, rfl, fun _ => ⟨g, rfl, blk_lt hg, fun i q hq => ?_⟩⟩
    have hc := h.cells (g := g) (by simp [Value.ownBlock])
    obtain ⟨q1, q2, q3, q4⟩ := quad_at hq
    have c1 := hc _ _ q1
    have c2 := hc _ _ q2
    have c3 := hc _ _ q3
    have c4 := hc _ _ q4
    rw [add_off] at c1 c2 c3 c4
    exact ⟨c1, c2, c3, c4⟩
theorem NmsAt.later {W W' : World} {v : Value} {qs : List Quad} (h : NmsAt W v qs) (hb : Below W.heap.size W W') : NmsAt W' v qs := by
  obtain ⟨a, cap, rfl, h⟩ := h
  refine ⟨a, cap, rfl, fun hne => ?_⟩
  obtain ⟨g, rfl, hg, hc⟩ := h hne
  refine ⟨g, rfl, Nat.lt_of_lt_of_le hg hb.size, fun i q hq => ?_⟩
  obtain ⟨c1, c2, c3, c4⟩ := hc i q hq
  exact ⟨cell_later' hb c1, cell_later' hb c2, cell_later' hb c3, cell_later' hb c4⟩

theorem diff_step {xs ys : List Quad} {k : Nat} {x y : Quad} (hx : xs[k]? = some x) (hy : ys[k]? = some y) (e : x = y) : diffAt k (xs.drop k) (ys.drop k) = diffAt (k + 1) (xs.drop (k + 1)) (ys.drop (k + 1)) := by
  rw [List.drop_eq_getElem?_toList_append, List.drop_eq_getElem?_toList_append (l := ys), hx, hy]
  simp [diffAt, e]
theorem diff_stop {xs ys : List Quad} {k : Nat} {x y : Quad} (hx : xs[k]? = some x) (hy : ys[k]? = some y) (e : x ≠ y) : diffAt k (xs.drop k) (ys.drop k) = some k := by
  rw [List.drop_eq_getElem?_toList_append, List.drop_eq_getElem?_toList_append (l := ys), hx, hy]
  simp [diffAt, e]
theorem diff_end {xs ys : List Quad} {k : Nat} (h : k = min xs.length ys.length) : diffAt k (xs.drop k) (ys.drop k) = if xs.length = ys.length then none else some k := by
  rcases Nat.lt_trichotomy xs.length ys.length with h1 | h1 | h1
  · have e : xs.drop k = [] := List.drop_of_length_le (by omega)
    rw [e, if_neg (by omega)]
    cases hd : ys.drop k with
    | nil => have := congrArg List.length hd; simp at this; omega
    | cons y ys' => rfl
  · have e : xs.drop k = [] := List.drop_of_length_le (by omega)
    have e' : ys.drop k = [] := List.drop_of_length_le (by omega)
    rw [e, e', if_pos h1]; rfl
  · have e : ys.drop k = [] := List.drop_of_length_le (by omega)
    rw [e, if_neg (by omega)]
    cases hd : xs.drop k with
    | nil => have := congrArg List.length hd; simp at this; omega
    | cons y ys' => rfl

theorem quad_cases (x y : Quad) : x = y ∨ (x ≠ y ∧ (¬ x.1 = y.1 ∨ (x.1 = y.1 ∧ ¬ x.2.1 = y.2.1) ∨ (x.1 = y.1 ∧ x.2.1 = y.2.1 ∧ ¬ x.2.2.1 = y.2.2.1) ∨ (x.1 = y.1 ∧ x.2.1 = y.2.1 ∧ x.2.2.1 = y.2.2.1 ∧ ¬ x.2.2.2 = y.2.2.2))) := by
  obtain ⟨a, b, c, d⟩ := x
  obtain ⟨a', b', c', d'⟩ := y
  simp only [Prod.mk.injEq, ne_eq]
  by_cases h1 : a = a' <;> by_cases h2 : b = b' <;> by_cases h3 : c = c' <;> by_cases h4 : d = d' <;> simp [h1, h2, h3, h4]

end Go.Proofs.YtimdmgkegdlafaaGreatDoor

/- Differ. -/
namespace Go.Proofs.YtimdmgkegdlafaaGreatDoor
set_option linter.unusedSimpArgs false
set_option linter.unusedVariables false
open Go Go.RowKit Go.Sort Go.BigFrame Go.Shelf

def differR : Option Nat → Value
  | some n => .tuple #[.int .i64 n, .int .i64 0]
  | none => .tuple #[.int .i64 0, .int .i64 4]

theorem openV_bad {b : Bk} {v : Value} (h : errF b ≠ 0) : openV b v = .tuple #[.agg #[.int .i64 0, .slice none 0 0], .int .i64 (errF b)] := by simp [openV, h]
theorem openV_good {b : Bk} {v : Value} (h : errF b = 0) : openV b v = .tuple #[v, .int .i64 0] := by simp [openV, h]

set_option maxRecDepth 100000 in
set_option maxHeartbeats 1000000 in
theorem Differ_bad1 (b c : Bk) (v u : Value) (w : World) (hb : BookAt w.heap.size w v b) (hc : BookAt w.heap.size w u c) (he : errF b ≠ 0) :
    Calls Tryz.prog 21 #[v, u] w fun e w' => e = .returned (.tuple #[.int .i64 0, .int .i64 (errF b)]) ∧ Below w.heap.size w w' := by
  have hb' := hb
  obtain ⟨sv, rfl, hgs⟩ := hb
  obtain ⟨a, cap, rfl, -⟩ := hgs
  obtain ⟨sv2, rfl, hgs2⟩ := hc
  obtain ⟨a2, cap2, rfl, -⟩ := hgs2
  have hne : (errF b != 0) = true := by simp [he]
  go_enter Tryz.func21, Tryz.ntmps21
  go_wp2_with fail
  refine (open_any b _ _ (hb'.below (B := w.heap.size) (by exact (by repeat (first | (refine Below.setCell ?_ ?_ _; rotate_left; · (first | omega | (simp; done) | (simp; omega) | fail)) | (refine Below.alloc ?_ ?_ _; rotate_left; · (first | omega | (simp; done) | (simp; omega) | fail)) | refine Below.drew ?_ | exact Below.refl _ _ | fail))) (Nat.le_refl _) |>.mono (by simp; try omega))).mono ?_
  rintro e w1 ⟨rfl, hb1⟩
  rw [openV_bad he]
  have hb0 : Below w.heap.size w w1 := Below.trans (by exact (by repeat (first | (refine Below.setCell ?_ ?_ _; rotate_left; · (first | omega | (simp; done) | (simp; omega) | fail)) | (refine Below.alloc ?_ ?_ _; rotate_left; · (first | omega | (simp; done) | (simp; omega) | fail)) | refine Below.drew ?_ | exact Below.refl _ _ | fail))) (hb1.mono (by simp; try omega))
  have hz := hb0.size
  go_wp2_with fail
  go_ret2
  exact ⟨rfl, (by repeat (first | (refine Below.setCell ?_ ?_ _; rotate_left; · (first | omega | (simp; done) | (simp; omega) | fail)) | (refine Below.alloc ?_ ?_ _; rotate_left; · (first | omega | (simp; done) | (simp; omega) | fail)) | refine Below.drew ?_ | exact hb0 | fail))⟩

set_option maxRecDepth 100000 in
set_option maxHeartbeats 1000000 in
theorem Differ_bad2 (b c : Bk) (v u : Value) (w : World) (hb : BookAt w.heap.size w v b) (hc : BookAt w.heap.size w u c) (he : errF b = 0) (hf : errF c ≠ 0) :
    Calls Tryz.prog 21 #[v, u] w fun e w' => e = .returned (.tuple #[.int .i64 0, .int .i64 (errF c)]) ∧ Below w.heap.size w w' := by
  have hb' := hb
  have hc' := hc
  obtain ⟨sv, rfl, hgs⟩ := hb
  obtain ⟨a, cap, rfl, -⟩ := hgs
  obtain ⟨sv2, rfl, hgs2⟩ := hc
  obtain ⟨a2, cap2, rfl, -⟩ := hgs2
  have hne : (errF c != 0) = true := by simp [hf]
  have HC := Lib.hid hc'
  clear hc'
  go_enter Tryz.func21, Tryz.ntmps21
  go_wp2_with fail
  refine (open_any b _ _ (hb'.below (B := w.heap.size) (by exact (by repeat (first | (refine Below.setCell ?_ ?_ _; rotate_left; · (first | omega | (simp; done) | (simp; omega) | fail)) | (refine Below.alloc ?_ ?_ _; rotate_left; · (first | omega | (simp; done) | (simp; omega) | fail)) | refine Below.drew ?_ | exact Below.refl _ _ | fail))) (Nat.le_refl _) |>.mono (by simp; try omega))).mono ?_
  rintro e w1 ⟨rfl, hb1⟩
  rw [openV_good he]
  have hb0 : Below w.heap.size w w1 := Below.trans (by exact (by repeat (first | (refine Below.setCell ?_ ?_ _; rotate_left; · (first | omega | (simp; done) | (simp; omega) | fail)) | (refine Below.alloc ?_ ?_ _; rotate_left; · (first | omega | (simp; done) | (simp; omega) | fail)) | refine Below.drew ?_ | exact Below.refl _ _ | fail))) (hb1.mono (by simp; try omega))
  have HB0 := Lib.hid hb0
  have hz := hb0.size
  have h3 : w1.heap[w.heap.size + 1]? = some (.cells #[.int .i64 c.signed, .slice a2 c.gs.length cap2] 24) := blk_later hb1 (by exact (by repeat (first | exact heap_alloc_at _ _ _ (by (first | omega | (simp; done) | (simp; omega) | fail)) | (refine (heap_alloc_past _ _ _ ?_).trans ?_; · (first | omega | (simp; done) | (simp; omega) | fail)) | fail)))
  have s3 := blk_lt h3
  have c0 := blk_cell h3 0; have c1 := blk_cell h3 1
  clear h3 hb1 hb0
  go_wp2_with fail
  refine (open_any c _ _ (HC.out.below (B := w.heap.size) (by exact (by repeat (first | (refine Below.setCell ?_ ?_ _; rotate_left; · (first | omega | (simp; done) | (simp; omega) | fail)) | (refine Below.alloc ?_ ?_ _; rotate_left; · (first | omega | (simp; done) | (simp; omega) | fail)) | refine Below.drew ?_ | exact HB0.out | fail))) (Nat.le_refl _) |>.mono (by simp; try omega))).mono ?_
  rintro e w2 ⟨rfl, hb2⟩
  rw [openV_bad hf]
  have hb0 : Below w.heap.size w w2 := Below.trans (by exact (by repeat (first | (refine Below.setCell ?_ ?_ _; rotate_left; · (first | omega | (simp; done) | (simp; omega) | fail)) | (refine Below.alloc ?_ ?_ _; rotate_left; · (first | omega | (simp; done) | (simp; omega) | fail)) | refine Below.drew ?_ | exact HB0.out | fail))) (hb2.mono (by simp; try omega))
  have hz2 := hb0.size
  go_wp2_with fail
  go_ret2
  exact ⟨rfl, (by repeat (first | (refine Below.setCell ?_ ?_ _; rotate_left; · (first | omega | (simp; done) | (simp; omega) | fail)) | (refine Below.alloc ?_ ?_ _; rotate_left; · (first | omega | (simp; done) | (simp; omega) | fail)) | refine Below.drew ?_ | exact hb0 | fail))⟩

/-- What the two lists of names leave. -/
def DifCut (w : World) (b c : Bk) (va vc : Value) (a0 a' : Act) (w' : World) : Prop :=
  ∃ v1 v2, Below w.heap.size w w' ∧ NmsAt w' v1 (namesF b) ∧ NmsAt w' v2 (namesF c) ∧ a' = { tmps := putAll a0.tmps [(29, va), (30, v1), (31, vc), (32, v2), (9, v1), (10, v2)], defers := [] }

set_option maxRecDepth 100000 in
set_option maxHeartbeats 1000000 in
theorem Differ_good (b c : Bk) (v u : Value) (w : World) (hb : BookAt w.heap.size w v b) (hc : BookAt w.heap.size w u c) (he : errF b = 0) (hf : errF c = 0) :
    Calls Tryz.prog 21 #[v, u] w fun e w' => e = .returned (differR (diffAt 0 (namesF b) (namesF c))) ∧ Below w.heap.size w w' := by
  have hb' := hb
  have hc' := hc
  obtain ⟨sv, rfl, hgs⟩ := hb
  obtain ⟨a, cap, rfl, -⟩ := hgs
  obtain ⟨sv2, rfl, hgs2⟩ := hc
  obtain ⟨a2, cap2, rfl, -⟩ := hgs2
  have HC := Lib.hid hc'
  have HB := Lib.hid hb'
  clear hc' hb'
  go_enter Tryz.func21, Tryz.ntmps21
  go_wp2_with fail
  refine (open_any b _ _ (HB.out.below (B := w.heap.size) (by exact (by repeat (first | (refine Below.setCell ?_ ?_ _; rotate_left; · (first | omega | (simp; done) | (simp; omega) | fail)) | (refine Below.alloc ?_ ?_ _; rotate_left; · (first | omega | (simp; done) | (simp; omega) | fail)) | refine Below.drew ?_ | exact Below.refl _ _ | fail))) (Nat.le_refl _) |>.mono (by simp; try omega))).mono ?_
  rintro e w1 ⟨rfl, hb1⟩
  rw [openV_good he]
  have hb0 : Below w.heap.size w w1 := Below.trans (by exact (by repeat (first | (refine Below.setCell ?_ ?_ _; rotate_left; · (first | omega | (simp; done) | (simp; omega) | fail)) | (refine Below.alloc ?_ ?_ _; rotate_left; · (first | omega | (simp; done) | (simp; omega) | fail)) | refine Below.drew ?_ | exact Below.refl _ _ | fail))) (hb1.mono (by simp; try omega))
  have HB0 := Lib.hid hb0
  have hz := hb0.size
  have h3 : w1.heap[w.heap.size + 1]? = some (.cells #[.int .i64 c.signed, .slice a2 c.gs.length cap2] 24) := blk_later hb1 (by exact (by repeat (first | exact heap_alloc_at _ _ _ (by (first | omega | (simp; done) | (simp; omega) | fail)) | (refine (heap_alloc_past _ _ _ ?_).trans ?_; · (first | omega | (simp; done) | (simp; omega) | fail)) | fail)))
  have s3 := blk_lt h3
  have c0 := blk_cell h3 0; have c1 := blk_cell h3 1
  clear h3 hb1 hb0
  go_wp2_with fail
  refine (open_any c _ _ (HC.out.below (B := w.heap.size) (by exact (by repeat (first | (refine Below.setCell ?_ ?_ _; rotate_left; · (first | omega | (simp; done) | (simp; omega) | fail)) | (refine Below.alloc ?_ ?_ _; rotate_left; · (first | omega | (simp; done) | (simp; omega) | fail)) | refine Below.drew ?_ | exact HB0.out | fail))) (Nat.le_refl _) |>.mono (by simp; try omega))).mono ?_
  rintro e w2 ⟨rfl, hb2⟩
  rw [openV_good hf]
  have hb0 : Below w.heap.size w w2 := Below.trans (by exact (by repeat (first | (refine Below.setCell ?_ ?_ _; rotate_left; · (first | omega | (simp; done) | (simp; omega) | fail)) | (refine Below.alloc ?_ ?_ _; rotate_left; · (first | omega | (simp; done) | (simp; omega) | fail)) | refine Below.drew ?_ | exact HB0.out | fail))) (hb2.mono (by simp; try omega))
  have hz2 := hb0.size
  have h6 : w2.heap[w1.heap.size]? = some (.cells #[.int .i64 b.signed, .slice a b.gs.length cap] 57) := blk_later hb2 (by exact (by repeat (first | exact heap_alloc_at _ _ _ (by (first | omega | (simp; done) | (simp; omega) | fail)) | (refine (heap_alloc_past _ _ _ ?_).trans ?_; · (first | omega | (simp; done) | (simp; omega) | fail)) | fail)))
  have s6 := blk_lt h6
  have H6 := Lib.hid h6
  have HB2 := Lib.hid hb0
  clear c0 c1 h6 hb2 hb0
  go_wp2_with fail
  obtain ⟨w3, hw3⟩ : ∃ w3, w3 = (w2.alloc (.cells #[.int .i64 c.signed, .slice a2 c.gs.length cap2] 57)).drew := ⟨_, rfl⟩
  obtain ⟨V, hV⟩ : ∃ V, V = w1.heap.size := ⟨_, rfl⟩
  obtain ⟨U, hU⟩ : ∃ U, U = w2.heap.size := ⟨_, rfl⟩
  have hh3 : Held w [(V, .cells #[.int .i64 b.signed, .slice a b.gs.length cap] 57), (U, .cells #[.int .i64 c.signed, .slice a2 c.gs.length cap2] 57)] w3 := by
    rw [hw3]
    refine ⟨by exact (by repeat (first | (refine Below.setCell ?_ ?_ _; rotate_left; · (first | omega | (simp; done) | (simp; omega) | fail)) | (refine Below.alloc ?_ ?_ _; rotate_left; · (first | omega | (simp; done) | (simp; omega) | fail)) | refine Below.drew ?_ | exact HB2.out | fail)), fun p hp => ?_⟩
    rw [hV, hU] at *
    (simp only [List.mem_cons, List.not_mem_nil, or_false] at hp)
    rcases hp with rfl | rfl
    · exact blk_drew (by repeat (first | (refine (heap_setCell_past _ _ _ _ ?_).trans ?_; · (first | omega | (simp; done) | (simp; omega) | fail)) | (refine (heap_alloc_past _ _ _ ?_).trans ?_; · (first | omega | (simp; done) | (simp; omega) | fail)) | exact H6.out | fail))
    · exact blk_drew (by repeat (first | exact heap_alloc_at _ _ _ (by (first | omega | (simp; done) | (simp; omega) | fail)) | (refine (heap_alloc_past _ _ _ ?_).trans ?_; · (first | omega | (simp; done) | (simp; omega) | fail)) | fail))
  have HH3 := Lib.hid hh3
  refine wp_cut (DifCut w b c (.agg #[.int .i64 b.signed, .slice a b.gs.length cap]) (.agg #[.int .i64 c.signed, .slice a2 c.gs.length cap2])) ?_ ?_
  · refine wpIn_region_orders (by kernel_rfl) [[0, 1, 2, 3, 4, 5], [0, 2, 1, 3, 4, 5], [2, 0, 1, 3, 4, 5]] (by kernel_rfl) ?_
    rw [← hw3, ← hV, ← hU]
    clear hw3 hV hU hh3
    have h6 := HH3.out.get 0 rfl
    have h8 := HH3.out.get 1 rfl
    have q0 := blk_cell h6 0; have q1 := blk_cell h6 1
    have u0 := blk_cell h8 0; have u1 := blk_cell h8 1
    simp only [List.forall_mem_cons]
    refine ⟨?_, ?_, ?_, fun _ h => by cases h⟩
    all_goals
      simp only [List.filterMap_cons, List.filterMap_nil, List.getElem?_toArray, List.getElem?_cons_zero, List.getElem?_cons_succ]
      change wpListIn _ _ _ _ _ [_, _, _, _, _, _] _ _
      gi_wp2_with fail
      refine ⟨trivial, ?_⟩
      refine (callsIn_wide.2 (names_any b _ _ (HB.out.below (B := w.heap.size) HH3.out.below (Nat.le_refl _) |>.mono HH3.out.below.size) he)).mono ?_
      rintro e w4 ⟨⟨v1, rfl, hr1⟩, hb4⟩
      have n1 : NmsAt w4 v1 (namesF b) := NmsAt.of_row (by rw [names_cells] at hr1; simpa [namesF] using hr1)
      have hh4 := HH3.out.below' hb4
      have N1 := Lib.hid n1
      have HH4 := Lib.hid hh4
      have h8 := hh4.get 1 rfl
      clear u0 u1
      have u0 := blk_cell h8 0; have u1 := blk_cell h8 1
      clear h8 h6 n1 hh4 hr1 hb4 q0 q1
      gi_wp2_with fail
      refine ⟨trivial, ?_⟩
      refine (callsIn_wide.2 (names_any c _ _ (HC.out.below (B := w.heap.size) HH4.out.below (Nat.le_refl _) |>.mono HH4.out.below.size) hf)).mono ?_
      rintro e w5 ⟨⟨v2, rfl, hr2⟩, hb5⟩
      have n2 : NmsAt w5 v2 (namesF c) := NmsAt.of_row (by rw [names_cells] at hr2; simpa [namesF] using hr2)
      have hF : Hid (Below w.heap.size w w5 ∧ NmsAt w5 v1 (namesF b) ∧ NmsAt w5 v2 (namesF c)) := ⟨(HH4.out.below' hb5).below, N1.out.later hb5, n2⟩
      clear hr2 n2 hb5 N1
      gi_wp2_with fail
      exact Cut.mk ⟨v1, v2, hF.out.1, hF.out.2.1, hF.out.2.2, by simp only [putAll, List.foldl_cons, List.foldl_nil, List.setIfInBounds_toArray, List.set_cons_succ, List.set_cons_zero]⟩
  · rintro a' w4 ⟨v1, v2, hb4, n1, n2, rfl⟩
    obtain ⟨ax, capx, rfl, hx⟩ := n1
    obtain ⟨ay, capy, rfl, hy⟩ := n2
    have HB4 := Lib.hid hb4
    have HX := Lib.hid hx
    have HY := Lib.hid hy
    clear hb4 hx hy hw3 hV hU HH3 hh3
    simp only [putAll, List.foldl_cons, List.foldl_nil, List.setIfInBounds_toArray, List.set_cons_succ, List.set_cons_zero]
    go_wp2_with fail
    obtain ⟨M, hM⟩ : ∃ M, M = min (namesF b).length (namesF c).length := ⟨_, rfl⟩
    have hMi : (min ((namesF b).length : Int) ((namesF c).length : Int)) = (M : Int) := by omega
    have hMb : M < 2000 := by
      have := (errF_zero he).len
      have := lvsFrom_len (i := 0) (errF_zero he).gs
      have : (namesF b).length = (lvs b).length := by simp [namesF]
      have : (lvs b).length ≤ b.gs.length * 65 := by unfold lvs; assumption
      omega
    rw [hMi]
    have HM := Lib.hid hM
    clear hM hMi
    go_loopw [39] (fun i wr => ∃ (k m : Nat), k ≤ M ∧ i = .int .i64 k ∧ wr = w4.drewN m ∧ Hid (diffAt 0 (namesF b) (namesF c) = diffAt k ((namesF b).drop k) ((namesF c).drop k))) (fun i _ => M - (intOf i).toNat)
    case atStart => exact ⟨0, 0, by omega, rfl, rfl, rfl⟩
    case round =>
      obtain ⟨k, m, hk, rfl, rfl, hh⟩ := hrel
      by_cases hlt : k < M
      · obtain ⟨x, hx⟩ : ∃ x, (namesF b)[k]? = some x := ⟨_, List.getElem?_eq_getElem (by have := HM.out; omega)⟩
        obtain ⟨y, hy⟩ : ∃ y, (namesF c)[k]? = some y := ⟨_, List.getElem?_eq_getElem (by have := HM.out; omega)⟩
        obtain ⟨gx, rfl, -, hcx⟩ := HX.out (fun e => by rw [e] at hx; cases hx)
        obtain ⟨gy, rfl, -, hcy⟩ := HY.out (fun e => by rw [e] at hy; cases hy)
        obtain ⟨x0, x1, x2, x3⟩ := hcx k x hx
        obtain ⟨y0, y1, y2, y3⟩ := hcy k y hy
        have hkx : k < (namesF b).length := (List.getElem?_eq_some_iff.1 hx).1
        have hky : k < (namesF c).length := (List.getElem?_eq_some_iff.1 hy).1
        have HXX := Lib.hid hx
        have HYY := Lib.hid hy
        clear hcx hcy hx hy
        go_wp2_with fail
        rcases quad_cases x y with rfl | ⟨hne, hcs⟩
        · go_quiet (fail)
          go_wp2_with fail
          go_roundw
          case rel => exact ⟨k + 1, m + nq, by omega, by go_num, rfl, hh.out.trans (diff_step HXX.out HYY.out rfl)⟩
          case measure => simp [intOf]; omega
        · have HF : Hid (diffAt 0 (namesF b) (namesF c) = some k) := hh.out.trans (diff_stop HXX.out HYY.out hne)
          clear hh hne HXX HYY
          rcases hcs with h1 | ⟨h1, h2⟩ | ⟨h1, h2, h3⟩ | ⟨h1, h2, h3, h4⟩
          all_goals
            go_quiet (fail)
            go_wp2_with fail
            go_ret2
            exact ⟨by rw [HF.out]; rfl, bdrewN (bdrewN HB4.out _) _⟩
      · obtain rfl : k = M := by omega
        have HF := Lib.hid (hh.out.trans (diff_end HM.out))
        clear hh
        by_cases hl : (namesF b).length = (namesF c).length
        · rw [if_pos hl] at HF
          have hlb : ((namesF b).length : Int) = ((namesF c).length : Int) := by omega
          have HL := Lib.hid hl
          clear hl
          go_wp2_with fail
          go_ret2
          exact ⟨by rw [HF.out]; rfl, bdrewN HB4.out _⟩
        · rw [if_neg hl] at HF
          have hlb : ¬ ((namesF b).length : Int) = ((namesF c).length : Int) := by omega
          go_wp2_with fail
          go_ret2
          exact ⟨by rw [HF.out]; rfl, bdrewN HB4.out _⟩

end Go.Proofs.YtimdmgkegdlafaaGreatDoor
