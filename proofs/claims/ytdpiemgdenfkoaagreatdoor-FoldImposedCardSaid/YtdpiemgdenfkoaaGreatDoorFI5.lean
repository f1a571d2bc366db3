/- The parts Fa of the proof, joined. It holds without conditions of its own. -/

/- Layer 2, plain: how a sheet is folded, by the program and by the reference; both agree for all folds. -/
namespace Go.Proofs.YtdpiemgdenfkoaaGreatDoor
set_option linter.unusedSimpArgs false
set_option linter.unusedVariables false

/-- A leaf of a gathering where it lies. -/
structure Fl where
  sheet : Nat
  col : Nat
  row : Nat
  inner : Bool
  turned : Bool
deriving DecidableEq
/-- Folds: true is an x. -/
abbrev Fds := List Bool
def colsF (f : Fds) : Nat := 2 ^ (f.filter fun b => b).length
def rowsF (f : Fds) : Nat := 2 ^ (f.filter fun b => !b).length
/-- A pile turned over. -/
def overF (heads : Bool) (p : List Fl) : List Fl := p.reverse.map fun l => { l with inner := !l.inner, turned := l.turned != heads }
/-- One fold of the program's bed: columns, rows, piles. -/
def bedF (x heads : Bool) (b : Nat × Nat × (Nat → Nat → List Fl)) : Nat × Nat × (Nat → Nat → List Fl) :=
  (if x then b.1 / 2 else b.1, if x then b.2.1 else b.2.1 / 2, fun c r => if c < (if x then b.1 / 2 else b.1) ∧ r < (if x then b.2.1 else b.2.1 / 2) then b.2.2 c r ++ overF heads (if x then b.2.2 (b.1 - 1 - c) r else b.2.2 c (b.2.1 - 1 - r)) else b.2.2 c r)
def lastF (f : Fds) : Bool := f.getLastD false
/-- The leaves of a sheet, folded, as the program does it. -/
def sheetF (f : Fds) : List Fl := (f.foldl (fun b x => bedF x (x != lastF f) b) (colsF f, rowsF f, fun c r => [⟨0, c, r, false, false⟩])).2.2 0 0
/-- The leaves of a gathering, as the program does it. -/
def ofSheetF (l : List Fl) (s : Nat) : List Fl := l.map fun x => { x with sheet := s }
def gatherF (l : List Fl) (n : Nat) : List Fl := ((List.range n).flatMap fun s => ofSheetF (l.take (l.length / 2)) s) ++ (List.range n).flatMap fun k => ofSheetF (l.drop (l.length / 2)) (n - 1 - k)
/-- The folds that are made. -/
def madeF (f : Fds) (half : Bool) : Fds := if half then f.drop 1 else f
def leavesF (f : Fds) (n : Nat) (half : Bool) : List Fl := gatherF (sheetF (madeF f half)) n

/-- A leaf as it lies, in the reference: column, row, turned over by x and by y. -/
structure Ln where
  col : Nat
  row : Nat
  x : Nat
  y : Nat
deriving DecidableEq
def turnedR (x : Bool) (p : List Ln) : List Ln := p.reverse.map fun l => if x then { l with x := l.x + 1 } else { l with y := l.y + 1 }
def foldR (x : Bool) (ps : List (List (List Ln))) : List (List (List Ln)) :=
  let rows := ps.length
  let cols := (ps.headD []).length
  (List.range (if x then rows else rows / 2)).map fun r => (List.range (if x then cols / 2 else cols)).map fun c =>
    ((ps.getD r []).getD c []) ++ turnedR x (if x then (ps.getD r []).getD (cols - 1 - c) [] else (ps.getD (rows - 1 - r) []).getD c [])
def pileR (f : Fds) (half : Bool) : List Ln :=
  let rows := if half ∧ f.headD false = false then rowsF f / 2 else rowsF f
  let cols := if half ∧ f.headD false = true then colsF f / 2 else colsF f
  (((if half then f.drop 1 else f).foldl (fun ps x => foldR x ps) ((List.range rows).map fun r => (List.range cols).map fun c => [⟨c, r, 0, 0⟩])).headD []).headD []
def ownR (f : Fds) (l : List Ln) (s : Nat) : List Fl := l.map fun a => ⟨s, a.col, a.row, (a.x + a.y) % 2 == 1, (if lastF f then a.y else a.x) % 2 == 1⟩
/-- The leaves of a gathering, as the reference does it. -/
def allR (f : Fds) (n : Nat) (half : Bool) : List Fl :=
  let l := pileR f half
  let st := (List.range n).foldl (fun (st : List Fl × List Fl) s => (st.1 ++ (ownR f l s).take ((ownR f l s).length / 2), (ownR f l s).drop ((ownR f l s).length / 2) ++ st.2)) ([], [])
  st.1 ++ st.2
/-- All folds that a format can have. -/
def foldsOf : Nat → List Fds
  | 0 => [[]]
  | n + 1 => (foldsOf n).flatMap fun f => [true :: f, false :: f]
def allFolds : List Fds := foldsOf 1 ++ foldsOf 2 ++ foldsOf 3 ++ foldsOf 4
theorem foldsOf_mem : ∀ (n : Nat) (f : Fds), f.length = n → f ∈ foldsOf n
  | 0, [], _ => by simp [foldsOf]
  | n + 1, b :: f, h => by
    have ih := foldsOf_mem n f (by simpa using h)
    unfold foldsOf
    exact List.mem_flatMap.2 ⟨f, ih, by cases b <;> simp⟩
theorem allFolds_mem {f : Fds} (h1 : 1 ≤ f.length) (h2 : f.length ≤ 4) : f ∈ allFolds := by
  unfold allFolds
  have h : f.length = 1 ∨ f.length = 2 ∨ f.length = 3 ∨ f.length = 4 := by omega
  rcases h with h | h | h | h <;> simp [foldsOf_mem _ _ h]
/-- **The program folds as the reference does.** -/
theorem leaves_all : ∀ f ∈ allFolds, ∀ n ∈ [1, 2, 3, 4], leavesF f n false = allR f n false := by decide +kernel
theorem leaves_half : ∀ f ∈ allFolds, 2 ≤ f.length → leavesF f 1 true = allR f 1 true := by decide +kernel
theorem leaves_is {f : Fds} {n : Nat} {half : Bool} (h1 : 1 ≤ f.length) (h2 : f.length ≤ 4) (h3 : 1 ≤ n) (h4 : n ≤ 4) (h5 : half = true → n = 1 ∧ 2 ≤ f.length) : leavesF f n half = allR f n half := by
  have hf := allFolds_mem h1 h2
  cases half with
  | false => exact leaves_all f hf n (by simp; omega)
  | true =>
    obtain ⟨rfl, h6⟩ := h5 rfl
    exact leaves_half f hf h6
/-- The examples of the document. -/
theorem ex_quarto : leavesF [true, false] 1 false = [⟨0, 0, 0, false, false⟩, ⟨0, 1, 0, true, true⟩, ⟨0, 1, 1, false, true⟩, ⟨0, 0, 1, true, false⟩] := by decide +kernel
/-- How many leaves there are. -/
theorem leaves_count : ∀ f ∈ allFolds, ∀ n ∈ [1, 2, 3, 4], (leavesF f n false).length = colsF f * rowsF f * n := by decide +kernel
theorem leaves_count_half : ∀ f ∈ allFolds, 2 ≤ f.length → (leavesF f 1 true).length * 2 = colsF f * rowsF f := by decide +kernel
/-- Conjugate leaves: of one sheet, side by side, turned alike, one on each forme. -/
def conjB (f : Fds) (l : List Fl) : Bool := (List.range l.length).all fun i => match l[i]?, l[l.length - 1 - i]? with
  | some a, some b => a.sheet == b.sheet && (if lastF f then (a.row == b.row && (a.col == b.col + 1 || b.col == a.col + 1)) else (a.col == b.col && (a.row == b.row + 1 || b.row == a.row + 1))) && a.turned == b.turned && a.inner != b.inner
  | _, _ => false
theorem conj_all : ∀ f ∈ allFolds, ∀ n ∈ [1, 2, 3, 4], conjB f (leavesF f n false) = true := by decide +kernel
theorem conj_half : ∀ f ∈ allFolds, 2 ≤ f.length → conjB f (leavesF f 1 true) = true := by decide +kernel
/-- No two leaves of a gathering lie at one place. -/
def placesB (l : List Fl) : Bool := (List.range l.length).all fun i => (List.range i).all fun k => match l[i]?, l[k]? with
  | some a, some b => !(a.sheet == b.sheet && a.col == b.col && a.row == b.row)
  | _, _ => false
theorem places_all : ∀ f ∈ allFolds, ∀ n ∈ [1, 2, 3, 4], placesB (leavesF f n false) = true := by decide +kernel
theorem places_half : ∀ f ∈ allFolds, 2 ≤ f.length → placesB (leavesF f 1 true) = true := by decide +kernel
/-- Where leaves lie. -/
def insideB (f : Fds) (n : Nat) (l : List Fl) : Bool := l.all fun a => decide (a.col < colsF f) && decide (a.row < rowsF f) && decide (a.sheet < n)
theorem inside_all : ∀ f ∈ allFolds, ∀ n ∈ [1, 2, 3, 4], insideB f n (leavesF f n false) = true := by decide +kernel
theorem inside_half : ∀ f ∈ allFolds, 2 ≤ f.length → insideB (madeF f true) 1 (leavesF f 1 true) = true := by decide +kernel
/-- The page of a leaf on a forme. -/
def pageF (i : Nat) (l : Fl) (inner : Bool) : Int := let n : Int := 2 * i + 1 + (if l.inner != inner then 1 else 0); if l.turned then -n else n
/-- The leaf at a place. -/
def atF (l : List Fl) (s c r : Nat) : Option Nat := l.findIdx? fun a => a.sheet == s && a.col == c && a.row == r
/-- What lies at a place of a forme. -/
def spotF (l : List Fl) (s c r : Nat) (inner : Bool) : Option Int := match atF l s c r with
  | some i => match l[i]? with
    | some a => some (pageF i a inner)
    | none => none
  | none => none
/-- A forme, as the program and as the reference makes it. -/
def formeF (l : List Fl) (rows cols : Nat) (s : Nat) (inner : Bool) : List Int := (List.range rows).flatMap fun r => (List.range cols).map fun c => (spotF l s c r inner).getD 0
def formeR (l : List Fl) (rows cols : Nat) (s : Nat) (inner : Bool) : List Int := (List.range rows).flatMap fun r => (List.range cols).filterMap fun c => spotF l s c r inner
/-- The mates of a leaf, as the program finds them (by what leaves are) and as the reference does (by their numbers). -/
def matesF (l : List Fl) (k : Nat) : List Nat := (List.range l.length).filter fun i => match l[i]?, l[k]? with
  | some a, some b => a != b && a.sheet == b.sheet
  | _, _ => false
def matesR (l : List Fl) (k : Nat) : List Nat := (List.range l.length).filter fun i => i != k && match l[i]?, l[k]? with
  | some a, some b => a.sheet == b.sheet
  | _, _ => false
theorem mates_same {l : List Fl} (h : placesB l = true) (k : Nat) : matesF l k = matesR l k := by
  have key : ∀ i j : Nat, j < i → i < l.length → l[i]? ≠ l[j]? := fun i j hji hil e => by
    have h1 := List.all_eq_true.1 h i (List.mem_range.2 hil)
    have h2 := List.all_eq_true.1 h1 j (List.mem_range.2 hji)
    obtain ⟨a, ha⟩ : ∃ a, l[i]? = some a := ⟨_, List.getElem?_eq_getElem hil⟩
    rw [← e, ha] at h2
    simp at h2
  unfold matesF matesR
  apply List.filter_congr
  intro i hi
  have hil := List.mem_range.1 hi
  obtain ⟨a, ha⟩ : ∃ a, l[i]? = some a := ⟨_, List.getElem?_eq_getElem hil⟩
  rw [ha]
  cases hb : l[k]? with
  | none => simp
  | some b =>
    dsimp only
    by_cases e : i = k
    · subst e
      rw [ha] at hb
      cases hb
      simp
    · have hab : a ≠ b := fun hab => by
        have hkl := (List.getElem?_eq_some_iff.1 hb).1
        rcases Nat.lt_or_gt_of_ne e with h1 | h1
        · exact key k i h1 hkl (by rw [ha, hb, hab])
        · exact key i k h1 hil (by rw [ha, hb, hab])
      have h1 : (a != b) = true := by simpa using hab
      have h2 : (i != k) = true := by simpa using e
      rw [h1, h2]
/-- The examples of the document. -/
theorem ex_forme : formeF (leavesF [true, false] 1 false) 2 2 0 true = [2, -3, 7, -6] := by decide +kernel
theorem ex_formeO : formeF (leavesF [true, false, true] 1 false) 2 4 0 false = [1, 16, 13, 4, -8, -9, -12, -5] := by decide +kernel
theorem ex_formeK : formeF (leavesF [true, false] 1 false) 2 2 0 false = [1, -4, 8, -5] := by decide +kernel
theorem ex_mates : matesF (leavesF [true, false, true] 1 false) 1 = [0, 2, 3, 4, 5, 6, 7] := by decide +kernel
end Go.Proofs.YtdpiemgdenfkoaaGreatDoor
