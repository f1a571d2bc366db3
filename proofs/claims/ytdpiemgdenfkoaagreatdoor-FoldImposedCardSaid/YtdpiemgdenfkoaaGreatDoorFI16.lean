/- The parts Uo, Up of the proof, joined. It holds without conditions of its own. -/
import Derived.Test.YtdpiemgdenfkoaaGreatDoorFI15
/- The pages of all formes: each page is there once. -/
namespace Go.Proofs.YtdpiemgdenfkoaaGreatDoor
set_option linter.unusedSimpArgs false
set_option linter.unusedVariables false
open Go Go.RowKit Go.Sort Go.BigFrame

/-- The formes of a sheet, side by side: what each page is, and on which forme it lies. -/
def pairI (l : List Fl) (rows cols s k : Nat) : List (Nat × Nat) := [((((formeF l rows cols s false)[k]?).getD 0).natAbs, 2 * s), ((((formeF l rows cols s true)[k]?).getD 0).natAbs, 2 * s + 1)]
def visK (l : List Fl) (rows cols s k : Nat) : List (Nat × Nat) := (List.range k).flatMap fun k => pairI l rows cols s k
def visS (l : List Fl) (rows cols n : Nat) : List (Nat × Nat) := (List.range n).flatMap fun s => visK l rows cols s (rows * cols)
theorem visK_succ (l : List Fl) (rows cols s k : Nat) : visK l rows cols s (k + 1) = visK l rows cols s k ++ pairI l rows cols s k := by simp [visK, List.range_succ]
theorem visS_succ (l : List Fl) (rows cols n : Nat) : visS l rows cols (n + 1) = visS l rows cols n ++ visK l rows cols n (rows * cols) := by simp [visS, List.range_succ]
def freshB : List Nat → List Nat → Bool
  | [], _ => true
  | p :: r, seen => !(seen.contains p) && freshB r (p :: seen)
theorem freshB_at : ∀ (a : List Nat) (seen : List Nat) (p : Nat) (r : List Nat), freshB (a ++ p :: r) seen = true → p ∉ seen ∧ p ∉ a
  | [], seen, p, r, h => by
    simp only [List.nil_append, freshB, Bool.and_eq_true] at h
    refine ⟨fun hm => ?_, by simp⟩
    have := h.1
    rw [List.contains_iff_mem.2 hm] at this
    cases this
  | x :: a, seen, p, r, h => by
    simp only [List.cons_append, freshB, Bool.and_eq_true] at h
    obtain ⟨h1, h2⟩ := freshB_at a (x :: seen) p r h.2
    simp only [List.mem_cons, not_or] at h1 ⊢
    exact ⟨h1.2, h1.1, h2⟩
theorem flat_part {α : Type} (F : Nat → List α) (n s : Nat) (h : s < n) : ∃ r, (List.range n).flatMap F = (List.range s).flatMap F ++ (F s ++ r) := by
  induction n with
  | zero => omega
  | succ n ih =>
    rw [List.range_succ, List.flatMap_append]
    by_cases e : s = n
    · subst e
      exact ⟨[], by simp⟩
    · obtain ⟨r, hr⟩ := ih (by omega)
      exact ⟨r ++ [n].flatMap F, by rw [hr]; simp⟩
/-- What is found of a page among those that were met. -/
def whF (vis : List (Nat × Nat)) (j : Nat) : Int := match vis.find? (fun q => q.1 == j) with
  | some q => (q.2 : Int)
  | none => -1
def arrF (vis : List (Nat × Nat)) (M : Nat) : List Int := (List.range M).map (whF vis)
theorem arrF_nil (M : Nat) : arrF [] M = List.replicate M (-1) := by
  refine List.ext_getElem? fun i => ?_
  unfold arrF
  rw [List.getElem?_map, List.getElem?_replicate]
  by_cases h : i < M
  · rw [List.getElem?_range h, if_pos h]; rfl
  · rw [List.getElem?_eq_none (by simpa using h), if_neg h]; rfl
theorem whF_new {vis : List (Nat × Nat)} {j : Nat} (h : j ∉ vis.map (·.1)) : whF vis j = -1 := by
  unfold whF
  rw [List.find?_eq_none.2 fun q hq e => h (List.mem_map.2 ⟨q, hq, by simpa using e⟩)]
theorem whF_add {vis : List (Nat × Nat)} {p v j : Nat} (h : p ∉ vis.map (·.1)) : whF (vis ++ [(p, v)]) j = if j = p then (v : Int) else whF vis j := by
  unfold whF
  rw [List.find?_append]
  by_cases e : j = p
  · subst e
    rw [List.find?_eq_none.2 fun q hq e => h (List.mem_map.2 ⟨q, hq, by simpa using e⟩), if_pos rfl]
    simp
  · rw [if_neg e]
    cases hf : vis.find? (fun q => q.1 == j) with
    | some q => rfl
    | none =>
      have : (p == j) = false := beq_eq_false_iff_ne.2 fun h => e h.symm
      simp [this]
theorem arrF_set {vis : List (Nat × Nat)} {p v M : Nat} (h : p ∉ vis.map (·.1)) : (arrF vis M).set p (v : Int) = arrF (vis ++ [(p, v)]) M := by
  refine List.ext_getElem? fun i => ?_
  unfold arrF
  rw [List.getElem?_set, List.getElem?_map, List.length_map, List.length_range]
  by_cases hi : i < M
  · rw [List.getElem?_map, List.getElem?_range hi]
    by_cases e : p = i
    · subst e
      rw [if_pos rfl, if_pos hi]
      show some _ = some (whF _ p)
      rw [whF_add h, if_pos rfl]
    · rw [if_neg e]
      show some (whF vis i) = some (whF _ i)
      rw [whF_add h, if_neg fun h => e h.symm]
  · rw [List.getElem?_map, List.getElem?_eq_none (l := List.range M) (by simpa using hi)]
    by_cases e : p = i
    · subst e
      rw [if_pos rfl, if_neg hi]; rfl
    · rw [if_neg e]; rfl
theorem arrF_at {vis : List (Nat × Nat)} {M j : Nat} (h : j < M) : (arrF vis M)[j]? = some (whF vis j) := by
  unfold arrF
  rw [List.getElem?_map, List.getElem?_range h]; rfl
theorem arrF_len (vis : List (Nat × Nat)) (M : Nat) : (arrF vis M).length = M := by simp [arrF]
/-- The pages of two formes at one place belong to one leaf. -/
def backB (a b : Int) : Bool := (decide (a < 0) == decide (b < 0)) && ((a.natAbs - 1) / 2 == (b.natAbs - 1) / 2) && a != b && decide (a ≠ 0) && decide (b ≠ 0)
def imposedB (l : List Fl) (rows cols n : Nat) : Bool :=
  freshB ((visS l rows cols n).map (·.1)) [] && ((visS l rows cols n).all fun q => decide (1 ≤ q.1) && decide (q.1 ≤ 2 * l.length)) && (visS l rows cols n).length == 2 * l.length &&
  ((List.range n).all fun s => (List.range (rows * cols)).all fun k => backB (((formeF l rows cols s false)[k]?).getD 0) (((formeF l rows cols s true)[k]?).getD 0)) &&
  ((List.range l.length).all fun i => match l[i]? with
    | some a => decide (whF (visS l rows cols n) (2 * i + 1) / 2 = a.sheet) && decide (0 ≤ whF (visS l rows cols n) (2 * i + 1)) && (match l[i + 1]? with
      | some b => a.sheet != b.sheet || decide (whF (visS l rows cols n) (2 * i + 2) = whF (visS l rows cols n) (2 * i + 3))
      | none => true)
    | none => false)
set_option maxRecDepth 100000 in
theorem imposed_3 : ∀ f ∈ foldsOf 3, ∀ n ∈ [1, 2, 3, 4], imposedB (leavesF f n false) (rowsF f) (colsF f) n = true := by decide +kernel
set_option maxRecDepth 100000 in
theorem imposed_1 : ∀ f ∈ foldsOf 1 ++ foldsOf 2, ∀ n ∈ [1, 2, 3, 4], imposedB (leavesF f n false) (rowsF f) (colsF f) n = true := by decide +kernel
set_option maxRecDepth 100000 in
theorem imposed_half : ∀ f ∈ foldsOf 2, imposedB (leavesF f 1 true) (rowsF (madeF f true)) (colsF (madeF f true)) 1 = true := by decide +kernel
end Go.Proofs.YtdpiemgdenfkoaaGreatDoor

/- Each page is there once: sheets of four folds. -/
namespace Go.Proofs.YtdpiemgdenfkoaaGreatDoor
set_option linter.unusedSimpArgs false
set_option linter.unusedVariables false
set_option maxRecDepth 100000 in
theorem imposed_41 : ∀ f ∈ foldsOf 4, ∀ n ∈ [1, 2], imposedB (leavesF f n false) (rowsF f) (colsF f) n = true := by decide +kernel
set_option maxRecDepth 100000 in
theorem imposed_43 : ∀ f ∈ foldsOf 4, imposedB (leavesF f 3 false) (rowsF f) (colsF f) 3 = true := by decide +kernel
set_option maxRecDepth 100000 in
theorem imposed_h3 : ∀ f ∈ foldsOf 3 ++ foldsOf 4, imposedB (leavesF f 1 true) (rowsF (madeF f true)) (colsF (madeF f true)) 1 = true := by decide +kernel
end Go.Proofs.YtdpiemgdenfkoaaGreatDoor
