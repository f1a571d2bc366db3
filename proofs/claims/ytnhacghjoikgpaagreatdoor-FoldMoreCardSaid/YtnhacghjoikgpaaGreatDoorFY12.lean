/- The parts Ua of the proof, joined. It holds without conditions of its own. -/
import Derived.Test.YtnhacghjoikgpaaGreatDoorFY11
/- What is known of the mates of leaves: how many they are, and which. -/
namespace Go.Proofs.YtnhacghjoikgpaaGreatDoor
set_option linter.unusedSimpArgs false
set_option linter.unusedVariables false
open Go Go.RowKit Go.Sort Go.BigFrame

theorem cols_rows : ∀ f ∈ allFolds, colsF f * rowsF f = 2 ^ f.length := by decide +kernel
def eachB (l : List Fl) (s : Nat) : Bool := (List.range l.length).all fun i => (matesF l i).length + 1 == s
set_option maxRecDepth 100000 in
theorem each_all : ∀ f ∈ allFolds, ∀ n ∈ [1, 2, 3, 4], eachB (leavesF f n false) (2 ^ f.length) = true := by decide +kernel
theorem each_half : ∀ f ∈ allFolds, 2 ≤ f.length → eachB (leavesF f 1 true) (2 ^ (f.length - 1)) = true := by decide +kernel
/-- The leaves of one sheet. -/
def sizeW (m : Mkw) (f : Fmt) : Nat := if m.half then 2 ^ (f.folds.length - 1) else 2 ^ f.folds.length
theorem fds_len (f : Fmt) : (fdsB f.folds).length = f.folds.length := by unfold fdsB; simp
theorem Fine.size {p : Prs} {m : Mkw} {f : Fmt} (h : Fine p m f) : (leavesW m f).length = sizeW m f * m.sheets.toNat := by
  obtain ⟨h1, h2⟩ := h.mem
  have hc := cols_rows _ h1
  rw [fds_len] at hc
  unfold leavesW sizeW
  cases hh : m.half with
  | false =>
    rw [leaves_count _ h1 _ h2, hc]
    rfl
  | true =>
    obtain ⟨h3, h4⟩ := h.two hh
    rw [h3, if_pos rfl]
    have := leaves_count_half _ h1 h4
    rw [hc] at this
    rw [fds_len] at h4
    obtain ⟨k, hk⟩ : ∃ k, f.folds.length = k + 1 := ⟨f.folds.length - 1, by omega⟩
    rw [hk, Nat.pow_succ] at this
    rw [hk, Nat.add_sub_cancel]
    omega
theorem Fine.each {p : Prs} {m : Mkw} {f : Fmt} (h : Fine p m f) {i : Nat} (hi : i < (leavesW m f).length) : (matesF (leavesW m f) i).length + 1 = sizeW m f := by
  obtain ⟨h1, h2⟩ := h.mem
  have key : eachB (leavesW m f) (sizeW m f) = true := by
    unfold leavesW sizeW
    rw [← fds_len]
    cases hh : m.half with
    | false => exact each_all _ h1 _ h2
    | true =>
      obtain ⟨h3, h4⟩ := h.two hh
      rw [h3]
      exact each_half _ h1 h4
  have := List.all_eq_true.1 key i (List.mem_range.2 hi)
  simpa using this
theorem Fine.sheet {p : Prs} {m : Mkw} {f : Fmt} (h : Fine p m f) {i : Nat} {a : Fl} (hi : (leavesW m f)[i]? = some a) : a.sheet < m.sheets.toNat := by
  obtain ⟨h1, h2⟩ := h.mem
  have hm := List.mem_of_getElem? hi
  revert hm
  unfold leavesW
  cases hh : m.half with
  | false =>
    intro hm
    have := List.all_eq_true.1 (inside_all _ h1 _ h2) _ hm
    simp only [Bool.and_eq_true, decide_eq_true_eq] at this
    exact this.2
  | true =>
    obtain ⟨h3, h4⟩ := h.two hh
    rw [h3]
    intro hm
    have := List.all_eq_true.1 (inside_half _ h1 h4) _ hm
    simp only [Bool.and_eq_true, decide_eq_true_eq] at this
    exact this.2
theorem place_ne {l : List Fl} (h : placesB l = true) {i k : Nat} {a b : Fl} (hik : k < i) (ha : l[i]? = some a) (hb : l[k]? = some b) : ¬ (a.sheet = b.sheet ∧ a.col = b.col ∧ a.row = b.row) := by
  have h1 := List.all_eq_true.1 h i (List.mem_range.2 (List.getElem?_eq_some_iff.1 ha).1)
  have h2 := List.all_eq_true.1 h1 k (List.mem_range.2 hik)
  rw [ha, hb] at h2
  rintro ⟨e1, e2, e3⟩
  simp [e1, e2, e3] at h2
theorem mem_mates {l : List Fl} (h : placesB l = true) {i k : Nat} {a b : Fl} (ha : l[i]? = some a) (hb : l[k]? = some b) : k ∈ matesF l i ↔ k ≠ i ∧ b.sheet = a.sheet := by
  rw [mates_same h]
  unfold matesR
  rw [List.mem_filter, List.mem_range, ha, hb]
  have := (List.getElem?_eq_some_iff.1 hb).1
  simp [this]
theorem mates_lt {l : List Fl} {i k : Nat} (h : k ∈ matesF l i) : k < l.length := by
  unfold matesF at h
  exact List.mem_range.1 (List.mem_filter.1 h).1
theorem mates_up {l : List Fl} {i x y z : Nat} (h1 : (matesF l i)[x]? = some y) (h2 : (matesF l i)[x + 1]? = some z) : y < z := by
  have hp : (matesF l i).Pairwise (· < ·) := by unfold matesF; exact List.Pairwise.filter _ List.pairwise_lt_range
  obtain ⟨k1, e1⟩ := List.getElem?_eq_some_iff.1 h1
  obtain ⟨k2, e2⟩ := List.getElem?_eq_some_iff.1 h2
  have := List.pairwise_iff_getElem.1 hp x (x + 1) k1 k2 (by omega)
  rwa [e1, e2] at this
/-- Leaves have the same mates, or none in common. -/
theorem mates_sym {l : List Fl} (h : placesB l = true) {i k : Nat} {a b : Fl} (ha : l[i]? = some a) (hb : l[k]? = some b) (hne : i ≠ k) : decide (i ∈ matesF l k) = decide (k ∈ matesF l i) ∧ decide (k ∈ matesF l i) = decide (a.sheet = b.sheet) := by
  have e1 : (i ∈ matesF l k) ↔ a.sheet = b.sheet := (mem_mates h hb ha).trans ⟨fun x => x.2, fun x => ⟨hne, x⟩⟩
  have e2 : (k ∈ matesF l i) ↔ a.sheet = b.sheet := (mem_mates h ha hb).trans ⟨fun x => x.2.symm, fun x => ⟨fun e => hne e.symm, x.symm⟩⟩
  exact ⟨decide_eq_decide.2 (e1.trans e2.symm), decide_eq_decide.2 e2⟩
theorem mates_own {l : List Fl} (h : placesB l = true) {i : Nat} {a : Fl} (ha : l[i]? = some a) : decide (i ∈ matesF l i) = false :=
  decide_eq_false fun x => ((mem_mates h ha ha).1 x).1 rfl
theorem mates_of {l : List Fl} (h : placesB l = true) {i k y : Nat} {a b : Fl} (ha : l[i]? = some a) (hb : l[k]? = some b) (hy : y ∈ matesF l i) : ∃ c, l[y]? = some c ∧ c.sheet = a.sheet ∧ (y ≠ k → decide (y ∈ matesF l k) = decide (a.sheet = b.sheet)) := by
  obtain ⟨c, hc⟩ : ∃ c, l[y]? = some c := ⟨_, List.getElem?_eq_getElem (mates_lt hy)⟩
  have h1 := (mem_mates h ha hc).1 hy
  refine ⟨c, hc, h1.2, fun hn => decide_eq_decide.2 ?_⟩
  refine (mem_mates h hb hc).trans ?_
  rw [h1.2]
  exact ⟨fun x => x.2, fun x => ⟨hn, x⟩⟩
end Go.Proofs.YtnhacghjoikgpaaGreatDoor
