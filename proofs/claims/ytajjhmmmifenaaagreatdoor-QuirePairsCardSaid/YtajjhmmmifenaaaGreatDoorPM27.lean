/- The parts Pb, Ax of the proof, joined. It holds without conditions of its own. -/
import Derived.Test.YtajjhmmmifenaaaGreatDoorPM23
import Derived.Test.YtajjhmmmifenaaaGreatDoorPM26
import Derived.Test.YtajjhmmmifenaaaGreatDoorPM15
/- Plain facts of mates. -/
namespace Go.Proofs.YtajjhmmmifenaaaGreatDoor
set_option linter.unusedSimpArgs false
set_option linter.unusedVariables false

theorem turned_is {b : Bk} {x : Lf} {g : Gth} (hg : b.gs[x.gat]? = some g) : turnedL b x = ⟨x.gat, g.leaves + 1 - x.num, x.plus, x.kind⟩ := by unfold turnedL; rw [hg]
theorem turned_back {b : Bk} {x : Lf} {g : Gth} (hg : b.gs[x.gat]? = some g) : turnedL b (turnedL b x) = x := by
  rw [turned_is hg, turned_is (by exact hg)]
  obtain ⟨a, n, p, k⟩ := x
  dsimp only
  congr 1
  omega
theorem getL_nat {α : Type} (xs : List α) (i : Nat) : getL xs (i : Int) = xs[i]? := by
  unfold getL
  rw [if_neg (by omega), Int.toNat_natCast]
/-- What is so of a leaf that has a mate. -/
structure MateOk (b : Bk) (i k : Nat) (x y : Lf) (g : Gth) : Prop where
  at_ : (lvs b)[k]? = some y
  gat : y.gat = x.gat
  num : y.num + x.num = g.leaves + 1
  kx : x.kind = 0
  ky : y.kind = 0
  ne : k ≠ i
  back : mateF b k = some i
theorem mate_ok {b : Bk} {i k : Nat} {x : Lf} {g : Gth} (hx : (lvs b)[i]? = some x) (hg : b.gs[x.gat]? = some g) (h : mateF b i = some k) : ∃ y, MateOk b i k x y g := by
  unfold mateF at h
  rw [getL_nat, hx] at h
  dsimp only at h
  split at h
  · rename_i hc
    have hk := find_some h
    have ht := turned_is hg
    refine ⟨turnedL b x, hk, by rw [ht], by rw [ht]; dsimp only; omega, hc.1, by rw [ht]; exact hc.1, fun e => ?_, ?_⟩
    · subst e
      rw [hx] at hk
      exact hc.2 (Option.some.inj hk).symm
    · unfold mateF
      rw [getL_nat, hk]
      dsimp only
      rw [turned_back hg, if_pos ⟨by rw [ht]; exact hc.1, fun e => hc.2 e.symm⟩]
      exact find_at (lvs_sorted b) hx
  · cases h
theorem mate_none {b : Bk} (hok : BOk b) {i : Nat} {x : Lf} {g : Gth} (hx : (lvs b)[i]? = some x) (hg : b.gs[x.gat]? = some g) (h : mateF b i = none) : g.chs ≠ [] ∨ g.leaves = 1 := by
  by_cases hc : g.chs = []
  · refine Or.inr ?_
    have hf := (hok.gs g (List.mem_of_getElem? hg)).folded
    obtain ⟨g', hg', hm⟩ := lvs_mem (List.mem_of_getElem? hx)
    rw [hg] at hg'
    cases hg'
    rw [lvsG_plain hc] at hm
    by_cases h1 : g.leaves = 1
    · exact h1
    exfalso
    have he : g.leaves % 2 = 0 := by
      simp only [foldedB, Bool.or_eq_true, Bool.and_eq_true, decide_eq_true_eq] at hf
      omega
    have ht := turned_is hg
    have hy : turnedL b x ∈ lvs b := mem_lvs hg (by
      rw [lvsG_plain hc, ht]
      exact ⟨rfl, by dsimp only; omega, by dsimp only; omega, hm.2.2.2.1, hm.2.2.2.2⟩)
    obtain ⟨k, hk⟩ := find_mem hy
    unfold mateF at h
    rw [getL_nat, hx] at h
    dsimp only at h
    rw [if_pos ⟨hm.2.2.2.2, fun e => by
      have e' := congrArg Lf.num (ht.symm.trans e)
      dsimp only at e'
      omega⟩, hk] at h
    cases h
  · exact Or.inl hc
end Go.Proofs.YtajjhmmmifenaaaGreatDoor

/- The book of the examples, as plain Lean and in memory. -/
namespace Go.Proofs.YtajjhmmmifenaaaGreatDoor
set_option linter.unusedSimpArgs false
set_option linter.unusedVariables false
open Go Go.RowKit Go.Sort Go.BigFrame

/-- The changes of the examples' gathering D. -/
def exChs (k : Nat) : List Chg := [⟨1, 3, 0⟩, ⟨2, 5, 0⟩, ⟨3, 8, 1⟩].take (3 - k)
/-- The book of the examples, and the same without the last k changes. -/
def exBook (k : Nat) : Bk := ⟨4, [⟨1, 23, 2, []⟩, ⟨1, 0, 8, []⟩, ⟨1, 1, 8, []⟩, ⟨1, 2, 8, []⟩, ⟨1, 3, 8, exChs k⟩, ⟨1, 24, 1, []⟩]⟩

/-- The cells of the gatherings. -/
def exCells (sv : Value) : Array Value :=
  #[.int .i64 1, .int .i64 23, .int .i64 2, .slice none 0 0, .int .i64 1, .int .i64 0, .int .i64 8, .slice none 0 0, .int .i64 1, .int .i64 1, .int .i64 8, .slice none 0 0,
    .int .i64 1, .int .i64 2, .int .i64 8, .slice none 0 0, .int .i64 1, .int .i64 3, .int .i64 8, sv, .int .i64 1, .int .i64 24, .int .i64 1, .slice none 0 0]
def exChCells : Array Value := #[.int .i64 1, .int .i64 3, .int .i64 0, .int .i64 2, .int .i64 5, .int .i64 0, .int .i64 3, .int .i64 8, .int .i64 1]

theorem exChs_nil {B : Nat} {w : World} : ChsAt B w (.slice none 0 0) [] := ⟨none, 0, rfl, fun h => absurd rfl h⟩
theorem exChs_at {w : World} {C k : Nat} (hk : k ≤ 1) {e : TypeId} (h : w.heap[C]? = some (.cells exChCells e)) (hC : C < w.heap.size) :
    ChsAt w.heap.size w (.slice (some ⟨C, 0, none⟩) (3 - k) 3) (exChs k) := by
  refine ⟨some ⟨C, 0, none⟩, 3, by obtain rfl | rfl : k = 0 ∨ k = 1 := by omega
                                   all_goals rfl, fun _ => ⟨C, 0, rfl, hC, fun i c hc => ?_⟩⟩
  have hh : ∀ j v, exChCells[j]? = some v → w.cell? ⟨C, j, none⟩ = some v := fun j v hv => by simp [World.cell?, h, hv]
  obtain rfl | rfl : k = 0 ∨ k = 1 := by omega
  · rcases i with _ | _ | _ | i
    · cases hc; exact ⟨hh _ _ rfl, hh _ _ rfl, hh _ _ rfl⟩
    · cases hc; exact ⟨hh _ _ rfl, hh _ _ rfl, hh _ _ rfl⟩
    · cases hc; exact ⟨hh _ _ rfl, hh _ _ rfl, hh _ _ rfl⟩
    · simp [exChs] at hc
  · rcases i with _ | _ | i
    · cases hc; exact ⟨hh _ _ rfl, hh _ _ rfl, hh _ _ rfl⟩
    · cases hc; exact ⟨hh _ _ rfl, hh _ _ rfl, hh _ _ rfl⟩
    · simp [exChs] at hc

theorem exBook_at {w : World} {C G k : Nat} (hk : k ≤ 1) {e f : TypeId} (h : w.heap[C]? = some (.cells exChCells e)) (hC : C < w.heap.size)
    (hg : w.heap[G]? = some (.cells (exCells (.slice (some ⟨C, 0, none⟩) (3 - k) 3)) f)) (hG : G < w.heap.size) :
    BookAt w.heap.size w (.agg #[.int .i64 4, .slice (some ⟨G, 0, none⟩) 6 6]) (exBook k) := by
  refine ⟨_, rfl, some ⟨G, 0, none⟩, 6, rfl, fun _ => ⟨G, 0, rfl, hG, fun i g hi => ?_⟩⟩
  have hh : ∀ j v, (exCells (.slice (some ⟨C, 0, none⟩) (3 - k) 3))[j]? = some v → w.cell? ⟨G, j, none⟩ = some v := fun j v hv => by simp [World.cell?, hg, hv]
  rcases i with _ | _ | _ | _ | _ | _ | i
  · cases hi; exact ⟨_, exChs_nil, hh _ _ rfl, hh _ _ rfl, hh _ _ rfl, hh _ _ rfl⟩
  · cases hi; exact ⟨_, exChs_nil, hh _ _ rfl, hh _ _ rfl, hh _ _ rfl, hh _ _ rfl⟩
  · cases hi; exact ⟨_, exChs_nil, hh _ _ rfl, hh _ _ rfl, hh _ _ rfl, hh _ _ rfl⟩
  · cases hi; exact ⟨_, exChs_nil, hh _ _ rfl, hh _ _ rfl, hh _ _ rfl, hh _ _ rfl⟩
  · cases hi; exact ⟨_, exChs_at hk h hC, hh _ _ rfl, hh _ _ rfl, hh _ _ rfl, hh _ _ rfl⟩
  · cases hi; exact ⟨_, exChs_nil, hh _ _ rfl, hh _ _ rfl, hh _ _ rfl, hh _ _ rfl⟩
  · simp [exBook] at hi

end Go.Proofs.YtajjhmmmifenaaaGreatDoor
