/- The parts Ax of the proof, joined. It holds without conditions of its own. -/
import Derived.Test.YtimdmgkegdlafaaGreatDoorRO20
/- The book of the examples, as plain Lean and in memory. -/
namespace Go.Proofs.YtimdmgkegdlafaaGreatDoor
set_option linter.unusedSimpArgs false
set_option linter.unusedVariables false
open Go Go.RowKit Go.Sort Go.BigFrame

/-- The changes of the examples' gathering D. -/
def exChs (k : Nat) : List Chg := [⟨1, 3, 0⟩, ⟨2, 5, 0⟩, ⟨3, 8, 1⟩].take (3 - k)
/-- The book of the examples, and the same without the last k changes. -/
def exBook (k : Nat) : Bk := ⟨4, [⟨1, 23, 2, []⟩, ⟨1, 0, 8, []⟩, ⟨1, 1, 8, []⟩, ⟨1, 2, 8, []⟩, ⟨1, 3, 8, exChs k⟩, ⟨1, 24, 1, []⟩]⟩

/-- The cells of the gatherings. -/
def exCells (sv : Value) : Array Value :=
  #[.int .i64 1, .int .i64 23, .int .i64 2, .slice none 0 0, .int .i64 1, .int .i64 0, .int .i64 8, .slice none 0 0, .int .i64 1, .int .i64 1, .int .i64 8, .slice none 0 0,
    .int .i64 1, .int .i64 2, .int .i64 8, .slice none 0 0, .int .i64 1, .int .i64 3, .int .i64 8, sv, .int .i64 1, .int .i64 24, .int .i64 1, .slice none 0 0]
def exChCells : Array Value := #[.int .i64 1, .int .i64 3, .int .i64 0, .int .i64 2, .int .i64 5, .int .i64 0, .int .i64 3, .int .i64 8, .int .i64 1]

theorem exChs_nil {B : Nat} {w : World} : ChsAt B w (.slice none 0 0) [] := ⟨none, 0, rfl, fun h => absurd rfl h⟩
theorem exChs_at {w : World} {C k : Nat} (hk : k ≤ 1) {e : TypeId} (h : w.heap[C]? = some (.cells exChCells e)) (hC : C < w.heap.size) :
    ChsAt w.heap.size w (.slice (some ⟨C, 0, none⟩) (3 - k) 3) (exChs k) := by
  refine ⟨some ⟨C, 0, none⟩, 3, by obtain rfl | rfl : k = 0 ∨ k = 1 := by omega
                                   all_goals rfl, fun _ => ⟨C, 0, rfl, hC, fun i c hc => ?_⟩⟩
  have hh : ∀ j v, exChCells[j]? = some v → w.cell? ⟨C, j, none⟩ = some v := fun j v hv => by simp [World.cell?, h, hv]
  obtain rfl | rfl : k = 0 ∨ k = 1 := by omega
  · rcases i with _ | _ | _ | i
    · cases hc; exact ⟨hh _ _ rfl, hh _ _ rfl, hh _ _ rfl⟩
    · cases hc; exact ⟨hh _ _ rfl, hh _ _ rfl, hh _ _ rfl⟩
    · cases hc; exact ⟨hh _ _ rfl, hh _ _ rfl, hh _ _ rfl⟩
    · simp [exChs] at hc
  · rcases i with _ | _ | i
    · cases hc; exact ⟨hh _ _ rfl, hh _ _ rfl, hh _ _ rfl⟩
    · cases hc; exact ⟨hh _ _ rfl, hh _ _ rfl, hh _ _ rfl⟩
    · simp [exChs] at hc

theorem exBook_at {w : World} {C G k : Nat} (hk : k ≤ 1) {e f : TypeId} (h : w.heap[C]? = some (.cells exChCells e)) (hC : C < w.heap.size)
    (hg : w.heap[G]? = some (.cells (exCells (.slice (some ⟨C, 0, none⟩) (3 - k) 3)) f)) (hG : G < w.heap.size) :
    BookAt w.heap.size w (.agg #[.int .i64 4, .slice (some ⟨G, 0, none⟩) 6 6]) (exBook k) := by
  refine ⟨_, rfl, some ⟨G, 0, none⟩, 6, rfl, fun _ => ⟨G, 0, rfl, hG, fun i g hi => ?_⟩⟩
  have hh : ∀ j v, (exCells (.slice (some ⟨C, 0, none⟩) (3 - k) 3))[j]? = some v → w.cell? ⟨G, j, none⟩ = some v := fun j v hv => by simp [World.cell?, hg, hv]
  rcases i with _ | _ | _ | _ | _ | _ | i
  · cases hi; exact ⟨_, exChs_nil, hh _ _ rfl, hh _ _ rfl, hh _ _ rfl, hh _ _ rfl⟩
  · cases hi; exact ⟨_, exChs_nil, hh _ _ rfl, hh _ _ rfl, hh _ _ rfl, hh _ _ rfl⟩
  · cases hi; exact ⟨_, exChs_nil, hh _ _ rfl, hh _ _ rfl, hh _ _ rfl, hh _ _ rfl⟩
  · cases hi; exact ⟨_, exChs_nil, hh _ _ rfl, hh _ _ rfl, hh _ _ rfl, hh _ _ rfl⟩
  · cases hi; exact ⟨_, exChs_at hk h hC, hh _ _ rfl, hh _ _ rfl, hh _ _ rfl, hh _ _ rfl⟩
  · cases hi; exact ⟨_, exChs_nil, hh _ _ rfl, hh _ _ rfl, hh _ _ rfl, hh _ _ rfl⟩
  · simp [exBook] at hi

end Go.Proofs.YtimdmgkegdlafaaGreatDoor
