/- The parts Qu of the proof, joined. It holds without conditions of its own. -/
import Derived.Test.YtajjhmmmifenaaaGreatDoorOM26
/- Differ: the data, and its errors. -/
namespace Go.Proofs.YtajjhmmmifenaaaGreatDoor
set_option linter.unusedSimpArgs false
set_option linter.unusedVariables false
open Go Go.RowKit Go.Sort Go.BigFrame Go.Shelf

abbrev Quad := Int × Int × Int × Int
/-- The name of a leaf. -/
def nameQ (b : Bk) (x : Lf) : Quad := match b.gs[x.gat]? with
  | some g => (g.round, g.letter, x.num, x.plus)
  | none => (0, 0, 0, 0)
def quadV (q : Quad) : List Value := [.int .i64 q.1, .int .i64 q.2.1, .int .i64 q.2.2.1, .int .i64 q.2.2.2]
def quadCells (qs : List Quad) : List Value := qs.flatMap quadV
def namesF (b : Bk) : List Quad := (lvs b).map (nameQ b)
/-- Where two lists differ first. -/
def diffAt (i : Nat) : List Quad → List Quad → Option Nat
  | [], [] => none
  | [], _ :: _ => some i
  | _ :: _, [] => some i
  | x :: xs, y :: ys => if x = y then diffAt (i + 1) xs ys else some i

theorem names_cells (b : Bk) : nmsCells b (lvs b) = quadCells (namesF b) := by
  unfold nmsCells quadCells namesF
  rw [List.flatMap_map]
  have : ∀ xs : List Lf, (∀ x ∈ xs, x ∈ lvs b) → xs.flatMap (nmCells b) = xs.flatMap fun x => quadV (nameQ b x) := fun xs => by
    induction xs with
    | nil => intro _; rfl
    | cons x xs ih =>
      intro h
      obtain ⟨g, hg, -⟩ := lvs_mem (h x (by simp))
      rw [List.flatMap_cons, List.flatMap_cons, ih fun y hy => h y (by simp [hy])]
      simp [nmCells, nameQ, quadV, hg]
  exact this _ fun _ h => h
theorem quad_at : ∀ {qs : List Quad} {i : Nat} {q : Quad}, qs[i]? = some q → (quadCells qs)[i * 4]? = some (.int .i64 q.1) ∧ (quadCells qs)[i * 4 + 1]? = some (.int .i64 q.2.1) ∧ (quadCells qs)[i * 4 + 2]? = some (.int .i64 q.2.2.1) ∧ (quadCells qs)[i * 4 + 3]? = some (.int .i64 q.2.2.2)
  | [], _, _, h => by cases h
  | x :: xs, 0, q, h => by
    simp only [List.getElem?_cons_zero, Option.some.injEq] at h
    subst h
    refine ⟨rfl, rfl, rfl, rfl⟩
  | x :: xs, i + 1, q, h => by
    have h' := quad_at (qs := xs) (i := i) (q := q) (by simpa using h)
    have e : ∀ c, (quadCells (x :: xs))[(i + 1) * 4 + c]? = (quadCells xs)[i * 4 + c]? := fun c => by
      show (quadV x ++ quadCells xs)[(i + 1) * 4 + c]? = _
      rw [List.getElem?_append_right (by simp [quadV]; omega)]
      congr 1
      simp [quadV]; omega
    have e0 := e 0
    simp only [Nat.add_zero] at e0
    rw [e0, e 1, e 2, e 3]
    exact h'

/-- A slice of names. -/
def NmsAt (W : World) (v : Value) (qs : List Quad) : Prop :=
  ∃ (a : Option Addr) (cap : Nat), v = .slice a qs.length cap ∧ (qs ≠ [] → ∃ g, a = some ⟨g, 0, none⟩ ∧ g < W.heap.size ∧
    ∀ i q, qs[i]? = some q → W.cell? ⟨g, i * 4, none⟩ = some (.int .i64 q.1) ∧ W.cell? ⟨g, i * 4 + 1, none⟩ = some (.int .i64 q.2.1) ∧ W.cell? ⟨g, i * 4 + 2, none⟩ = some (.int .i64 q.2.2.1) ∧ W.cell? ⟨g, i * 4 + 3, none⟩ = some (.int .i64 q.2.2.2))
theorem add_off (g j : Nat) : (⟨g, 0, none⟩ : Addr).add j = ⟨g, j, none⟩ := by unfold Addr.add; split <;> simp_all
theorem NmsAt.of_row {W : World} {base : Nat} {v : Value} {e : TypeId} {qs : List Quad} (h : W.ownsRow base e 4 v qs.length (quadCells qs)) : NmsAt W v qs := by
  rcases h.2 with ⟨rfl, h0⟩ | ⟨g, cap, cur, rfl, hb, hg, rest⟩
  · exact ⟨none, 0, by rw [h0], fun hne => absurd (List.length_eq_zero_iff.1 h0) hne⟩
  · refine ⟨_, cap, rfl, fun _ => ⟨g, rfl, blk_lt hg, fun i q hq => ?_⟩⟩
    have hc := h.cells (g := g) (by simp [Value.ownBlock])
    obtain ⟨q1, q2, q3, q4⟩ := quad_at hq
    have c1 := hc _ _ q1
    have c2 := hc _ _ q2
    have c3 := hc _ _ q3
    have c4 := hc _ _ q4
    rw [add_off] at c1 c2 c3 c4
    exact ⟨c1, c2, c3, c4⟩
theorem NmsAt.later {W W' : World} {v : Value} {qs : List Quad} (h : NmsAt W v qs) (hb : Below W.heap.size W W') : NmsAt W' v qs := by
  obtain ⟨a, cap, rfl, h⟩ := h
  refine ⟨a, cap, rfl, fun hne => ?_⟩
  obtain ⟨g, rfl, hg, hc⟩ := h hne
  refine ⟨g, rfl, Nat.lt_of_lt_of_le hg hb.size, fun i q hq => ?_⟩
  obtain ⟨c1, c2, c3, c4⟩ := hc i q hq
  exact ⟨cell_later' hb c1, cell_later' hb c2, cell_later' hb c3, cell_later' hb c4⟩

theorem diff_step {xs ys : List Quad} {k : Nat} {x y : Quad} (hx : xs[k]? = some x) (hy : ys[k]? = some y) (e : x = y) : diffAt k (xs.drop k) (ys.drop k) = diffAt (k + 1) (xs.drop (k + 1)) (ys.drop (k + 1)) := by
  rw [List.drop_eq_getElem?_toList_append, List.drop_eq_getElem?_toList_append (l := ys), hx, hy]
  simp [diffAt, e]
theorem diff_stop {xs ys : List Quad} {k : Nat} {x y : Quad} (hx : xs[k]? = some x) (hy : ys[k]? = some y) (e : x ≠ y) : diffAt k (xs.drop k) (ys.drop k) = some k := by
  rw [List.drop_eq_getElem?_toList_append, List.drop_eq_getElem?_toList_append (l := ys), hx, hy]
  simp [diffAt, e]
theorem diff_end {xs ys : List Quad} {k : Nat} (h : k = min xs.length ys.length) : diffAt k (xs.drop k) (ys.drop k) = if xs.length = ys.length then none else some k := by
  rcases Nat.lt_trichotomy xs.length ys.length with h1 | h1 | h1
  · have e : xs.drop k = [] := List.drop_of_length_le (by omega)
    rw [e, if_neg (by omega)]
    cases hd : ys.drop k with
    | nil => have := congrArg List.length hd; simp at this; omega
    | cons y ys' => rfl
  · have e : xs.drop k = [] := List.drop_of_length_le (by omega)
    have e' : ys.drop k = [] := List.drop_of_length_le (by omega)
    rw [e, e', if_pos h1]; rfl
  · have e : ys.drop k = [] := List.drop_of_length_le (by omega)
    rw [e, if_neg (by omega)]
    cases hd : xs.drop k with
    | nil => have := congrArg List.length hd; simp at this; omega
    | cons y ys' => rfl

theorem quad_cases (x y : Quad) : x = y ∨ (x ≠ y ∧ (¬ x.1 = y.1 ∨ (x.1 = y.1 ∧ ¬ x.2.1 = y.2.1) ∨ (x.1 = y.1 ∧ x.2.1 = y.2.1 ∧ ¬ x.2.2.1 = y.2.2.1) ∨ (x.1 = y.1 ∧ x.2.1 = y.2.1 ∧ x.2.2.1 = y.2.2.1 ∧ ¬ x.2.2.2 = y.2.2.2))) := by
  obtain ⟨a, b, c, d⟩ := x
  obtain ⟨a', b', c', d'⟩ := y
  simp only [Prod.mk.injEq, ne_eq]
  by_cases h1 : a = a' <;> by_cases h2 : b = b' <;> by_cases h3 : c = c' <;> by_cases h4 : d = d' <;> simp [h1, h2, h3, h4]

end Go.Proofs.YtajjhmmmifenaaaGreatDoor
