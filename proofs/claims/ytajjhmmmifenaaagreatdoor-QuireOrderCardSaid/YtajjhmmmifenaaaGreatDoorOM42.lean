/- The parts We of the proof, joined. It holds without conditions of its own. -/
import Derived.Test.YtajjhmmmifenaaaGreatDoorOM41
import Derived.Test.YtajjhmmmifenaaaGreatDoorOM34
/- The fewest items that stand for gatherings. -/
namespace Go.Proofs.YtajjhmmmifenaaaGreatDoor
set_option linter.unusedSimpArgs false
set_option linter.unusedVariables false
open Go Go.RowKit Go.Sort Go.BigFrame

/-- One more gathering behind items, with their slices of changes. -/
def ysStep (ys : List (Itm × Value)) (z : Gth × Value) : List (Itm × Value) := match ys.getLast? with
  | some y => if takesB y.1 z.1 then ys.dropLast ++ [({ y.1 with kind := 1, lr := z.1.round, ll := z.1.letter }, y.2)] else ys ++ [(itm1 z.1, z.2)]
  | none => [(itm1 z.1, z.2)]
theorem ysStep_map (ys : List (Itm × Value)) (z : Gth × Value) : (ysStep ys z).map (·.1) = itmStep (ys.map (·.1)) z.1 := by
  rcases List.eq_nil_or_concat ys with rfl | ⟨zs, y, rfl⟩
  · simp [ysStep, itmStep]
  · simp only [ysStep, itmStep, List.map_append, List.map_cons, List.map_nil, List.getLast?_append, List.getLast?_singleton, Option.some_or]
    by_cases h : takesB y.1 z.1 = true <;> simp [h]
/-- The items so far. -/
structure Its (w wr : World) (v : Value) (ys : List (Itm × Value)) : Prop where
  row : wr.ownsRow w.heap.size 118 7 v ys.length (itCells ys)
  chs : ∀ y ∈ ys, ChsAt w.heap.size w y.2 y.1.chs
  below : Below w.heap.size w wr
theorem Its.same {w wr wr' : World} {v : Value} {ys : List (Itm × Value)} (h : Its w wr v ys) (hb : Below wr.heap.size wr wr') : Its w wr' v ys :=
  ⟨row_later h.row hb, h.chs, h.below.trans (hb.mono h.below.size)⟩
theorem Its.add {w wr wr' : World} {v v' : Value} {ys : List (Itm × Value)} {y : Itm × Value} (h : Its w wr v ys) (hy : ChsAt w.heap.size w y.2 y.1.chs) (hr : wr'.ownsRow w.heap.size 118 7 v' (ys.length + 1) (itCells ys ++ itC y)) (hg : wr.grownBy wr' v.ownBlock) : Its w wr' v' (ys ++ [y]) :=
  ⟨by rw [List.length_append]; simpa [itCells] using hr, fun z hz => by
    rcases List.mem_append.1 hz with hz | hz
    · exact h.chs z hz
    · simp only [List.mem_singleton] at hz; subst hz; exact hy, h.below.grown hg h.below.size (fun j ej => (h.row.lt j ej).1)⟩
theorem itCells_len (ys : List (Itm × Value)) : (itCells ys).length = ys.length * 7 := by
  unfold itCells
  induction ys with
  | nil => rfl
  | cons y ys ih => simp only [List.flatMap_cons, List.length_append, ih, List.length_cons]; simp [itC]; omega
/-- The last item's cells, and what becomes of the row if it is drawn out. -/
theorem Its.last {w wr : World} {v : Value} {zs : List (Itm × Value)} {y : Itm × Value} (h : Its w wr v (zs ++ [y])) : ∃ g cap, v = .slice (some ⟨g, 0, none⟩) (zs.length + 1) cap ∧ w.heap.size ≤ g ∧ g < wr.heap.size ∧
    (wr.cell? ⟨g, zs.length * 7, none⟩ = some (.int .i64 y.1.kind) ∧ wr.cell? ⟨g, zs.length * 7 + 1, none⟩ = some (.int .i64 y.1.fr) ∧ wr.cell? ⟨g, zs.length * 7 + 2, none⟩ = some (.int .i64 y.1.fl) ∧ wr.cell? ⟨g, zs.length * 7 + 3, none⟩ = some (.int .i64 y.1.lr) ∧
      wr.cell? ⟨g, zs.length * 7 + 4, none⟩ = some (.int .i64 y.1.ll) ∧ wr.cell? ⟨g, zs.length * 7 + 5, none⟩ = some (.int .i64 y.1.leaves) ∧ wr.cell? ⟨g, zs.length * 7 + 6, none⟩ = some y.2) ∧ (∀ j, wr.frozen? ⟨g, j, none⟩ = false) ∧
    ∀ r l : Int, Its w (((wr.setCell ⟨g, zs.length * 7, none⟩ (.int .i64 1)).setCell ⟨g, zs.length * 7 + 3, none⟩ (.int .i64 r)).setCell ⟨g, zs.length * 7 + 4, none⟩ (.int .i64 l)) v (zs ++ [({ y.1 with kind := 1, lr := r, ll := l }, y.2)]) := by
  have hlen : (zs ++ [y]).length = zs.length + 1 := by simp
  rcases h.row.2 with ⟨-, h0⟩ | ⟨g, cap, cur, rfl, hbg, hg, hnc, hrest⟩
  · rw [hlen] at h0; omega
  · have hrow := h.row
    rw [hlen] at hrow ⊢
    have hf := flat_at (f := itC) (n := 7) (fun _ => rfl) (xs := zs ++ [y]) (i := zs.length) (x := y) (by simp)
    have hcl := hrow.cells (g := g) (by simp [Value.ownBlock])
    have q : ∀ j u, j < 7 → (itC y)[j]? = some u → wr.cell? ⟨g, zs.length * 7 + j, none⟩ = some u := fun j u hj hu => by
      have := hcl _ _ ((hf j hj).trans hu)
      rwa [add_off'] at this
    refine ⟨g, cap, rfl, hbg, blk_lt hg, ⟨q 0 _ (by omega) rfl, q 1 _ (by omega) rfl, q 2 _ (by omega) rfl, q 3 _ (by omega) rfl, q 4 _ (by omega) rfl, q 5 _ (by omega) rfl, q 6 _ (by omega) rfl⟩, fun j => hrow.frozenAt j, fun r l => ⟨?_, ?_, ?_⟩⟩
    · have h1 := ((hrow.stored (zs.length * 7) (.int .i64 1)).1.stored (zs.length * 7 + 3) (.int .i64 r)).1.stored (zs.length * 7 + 4) (.int .i64 l)
      have e : (((itCells (zs ++ [y])).set (zs.length * 7) (.int .i64 1)).set (zs.length * 7 + 3) (.int .i64 r)).set (zs.length * 7 + 4) (.int .i64 l) = itCells (zs ++ [({ y.1 with kind := 1, lr := r, ll := l }, y.2)]) := by
        have hz := itCells_len zs
        unfold itCells at hz ⊢
        rw [List.flatMap_append, List.flatMap_append, ← hz]
        simp only [List.flatMap_cons, List.flatMap_nil, List.append_nil]
        rw [List.set_append_right _ _ (by omega), List.set_append_right _ _ (by omega), List.set_append_right _ _ (by omega), Nat.sub_self, Nat.add_sub_cancel_left, Nat.add_sub_cancel_left]
        rfl
      rw [e] at h1
      simpa using h1.1
    · intro z hz
      rcases List.mem_append.1 hz with hz | hz
      · exact h.chs z (by simp [hz])
      · simp only [List.mem_singleton] at hz; subst hz; exact h.chs y (by simp)
    · exact ((h.below.setCell (p := ⟨g, _, none⟩) hbg _).setCell (p := ⟨g, _, none⟩) hbg _).setCell (p := ⟨g, _, none⟩) hbg _

end Go.Proofs.YtajjhmmmifenaaaGreatDoor
