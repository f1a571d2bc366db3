/- The parts Db, Dc, Pa, Da2 of the proof, joined. It holds without conditions of its own. -/
import Derived.Test.YtimdmgkegdlafaaGreatDoorCH1
/- What the changes of a gathering do at a number; the leaves of a gathering and of a book, as plain Lean. -/
namespace Go.Proofs.YtimdmgkegdlafaaGreatDoor
set_option linter.unusedSimpArgs false
set_option linter.unusedVariables false

structure Fate where
  gone : Bool
  swapped : Bool
  added : Int
def fateStep (n : Int) (f : Fate) (c : Chg) : Fate :=
  if c.pos ≠ n then f else if c.kind = 1 then { f with gone := true } else if c.kind = 2 then { f with swapped := true } else if c.kind = 3 then { f with added := c.many } else f
def fateF (cs : List Chg) (n : Int) : Fate := cs.foldl (fateStep n) ⟨false, false, 0⟩

/-- A leaf: its gathering, Number, Plus and Kind. -/
structure Lf where
  gat : Nat
  num : Int
  plus : Int
  kind : Int
deriving DecidableEq

/-- The leaves of a gathering at one number, by what the changes do there. -/
def lvsNum (i : Nat) (k : Nat) (f : Fate) : List Lf :=
  (if 0 < k ∧ f.gone = false then [⟨i, k, 0, if f.swapped then 1 else 0⟩] else []) ++ (List.range f.added.toNat).map fun j => ⟨i, k, (j : Int) + 1, 2⟩
/-- The leaves of a gathering. -/
def lvsG (i : Nat) (g : Gth) : List Lf := (List.range (g.leaves + 1).toNat).flatMap fun k => lvsNum i k (fateF g.chs k)
/-- The leaves of a book. -/
def lvsFrom (i : Nat) : List Gth → List Lf
  | [] => []
  | g :: gs => lvsG i g ++ lvsFrom (i + 1) gs
def lvs (b : Bk) : List Lf := lvsFrom 0 b.gs

end Go.Proofs.YtimdmgkegdlafaaGreatDoor

/- What a book without an error is like: bounds of all its numbers. -/
namespace Go.Proofs.YtimdmgkegdlafaaGreatDoor
set_option linter.unusedSimpArgs false
set_option linter.unusedVariables false

theorem inB_iff {lo hi x : Int} : inB lo hi x = true ↔ lo ≤ x ∧ x ≤ hi := by simp [inB]
theorem gsErr_zero : ∀ {gs : List Gth} {seen : List (Int × Int)} {last : Int × Int} {i : Nat}, (gsErr seen last i gs).2 = 0 → ∀ g ∈ gs, ∃ seen last, gthErr seen last g = 0
  | [], _, _, _, _, g, hg => by cases hg
  | x :: xs, seen, last, i, h, g, hg => by
    unfold gsErr at h
    by_cases h0 : gthErr seen last x = 0
    · rw [if_pos h0] at h
      rcases List.mem_cons.1 hg with rfl | hg
      · exact ⟨seen, last, h0⟩
      · exact gsErr_zero h g hg
    · rw [if_neg h0] at h; exact absurd h h0
theorem chsErr_zero : ∀ {cs : List Chg} {l : Int} {p : Option Chg} {i : Nat}, (chsErr l p i cs).2 = 0 → ∀ c ∈ cs, kindB c = true ∧ rangeB c l = true
  | [], _, _, _, _, c, hc => by cases hc
  | x :: xs, l, p, i, h, c, hc => by
    unfold chsErr at h
    by_cases h0 : chErr l p x = 0
    · rw [if_pos h0] at h
      rcases List.mem_cons.1 hc with rfl | hc
      · unfold chErr at h0
        by_cases hk : kindB c = false
        · rw [if_pos hk] at h0; omega
        · rw [if_neg hk] at h0
          by_cases hr : rangeB c l = false
          · rw [if_pos hr] at h0; omega
          · exact ⟨by simpa using hk, by simpa using hr⟩
      · exact chsErr_zero h c hc
    · rw [if_neg h0] at h; exact absurd h h0

/-- A gathering without an error. -/
structure GOk (g : Gth) : Prop where
  sig : sigB g.round g.letter = true
  folded : foldedB g.leaves = true
  few : g.chs.length ≤ 4
  chs : (chsErr g.leaves none 0 g.chs).2 = 0
theorem gthErr_zero {seen : List (Int × Int)} {last : Int × Int} {g : Gth} (h : gthErr seen last g = 0) : GOk g := by
  unfold gthErr at h
  by_cases h1 : sigB g.round g.letter = false
  · rw [if_pos h1] at h; omega
  rw [if_neg h1] at h
  by_cases h2 : (g.round, g.letter) ∈ seen
  · rw [if_pos h2] at h; omega
  rw [if_neg h2] at h
  by_cases h3 : g.letter < 23 ∧ behindB g.round g.letter last.1 last.2 = false
  · rw [if_pos h3] at h; omega
  rw [if_neg h3] at h
  by_cases h4 : foldedB g.leaves = false
  · rw [if_pos h4] at h; omega
  rw [if_neg h4] at h
  by_cases h5 : 4 < g.chs.length
  · rw [if_pos h5] at h; omega
  rw [if_neg h5] at h
  exact ⟨by simpa using h1, by simpa using h4, by omega, h⟩
theorem GOk.leaves {g : Gth} (h : GOk g) : 1 ≤ g.leaves ∧ g.leaves ≤ 12 := by
  have := h.folded
  simp only [foldedB, Bool.or_eq_true, Bool.and_eq_true, decide_eq_true_eq, inB_iff] at this
  omega
theorem GOk.round {g : Gth} (h : GOk g) : 1 ≤ g.round ∧ g.round ≤ 3 := by
  have := h.sig
  simp only [sigB, Bool.and_eq_true, inB_iff] at this
  omega
theorem GOk.letter {g : Gth} (h : GOk g) : 0 ≤ g.letter ∧ g.letter ≤ 24 := by
  have := h.sig
  simp only [sigB, Bool.and_eq_true, inB_iff] at this
  omega
theorem GOk.ch {g : Gth} (h : GOk g) {c : Chg} (hc : c ∈ g.chs) : (c.kind = 1 ∨ c.kind = 2 ∨ c.kind = 3) ∧ 0 ≤ c.pos ∧ c.pos ≤ g.leaves ∧ 0 ≤ c.many ∧ c.many ≤ 4 := by
  obtain ⟨hk, hr⟩ := chsErr_zero h.chs c hc
  simp only [kindB, Bool.or_eq_true, decide_eq_true_eq] at hk
  unfold rangeB at hr
  split at hr <;> simp only [Bool.and_eq_true, inB_iff, decide_eq_true_eq] at hr <;> refine ⟨by omega, by omega, by omega, by omega, by omega⟩

def errF (b : Bk) : Int := (checkF b).2.2
structure BOk (b : Bk) : Prop where
  signed : 0 ≤ b.signed ∧ b.signed ≤ 12
  len : 1 ≤ b.gs.length ∧ b.gs.length ≤ 30
  gs : ∀ g ∈ b.gs, GOk g
theorem errF_zero {b : Bk} (h : errF b = 0) : BOk b := by
  unfold errF checkF at h
  by_cases h1 : inB 0 12 b.signed = false
  · rw [if_pos h1] at h; simp at h
  rw [if_neg h1] at h
  by_cases h2 : inB 1 30 b.gs.length = false
  · rw [if_pos h2] at h; simp at h
  rw [if_neg h2] at h
  have h1' := inB_iff.1 (show inB 0 12 b.signed = true by simpa using h1)
  have h2' := inB_iff.1 (show inB 1 30 b.gs.length = true by simpa using h2)
  by_cases h3 : (gsErr [] (0, 0) 0 b.gs).2 = 0
  · exact ⟨h1', by omega, fun g hg => by obtain ⟨s, l, hz⟩ := gsErr_zero h3 g hg; exact gthErr_zero hz⟩
  · rw [if_neg h3] at h; exact absurd h h3

theorem lvsFrom_app : ∀ (xs ys : List Gth) (i : Nat), lvsFrom i (xs ++ ys) = lvsFrom i xs ++ lvsFrom (i + xs.length) ys
  | [], ys, i => by simp [lvsFrom]
  | x :: xs, ys, i => by
    simp only [List.cons_append, lvsFrom, lvsFrom_app xs ys (i + 1), List.append_assoc, List.length_cons]
    rw [show i + 1 + xs.length = i + (xs.length + 1) by omega]
theorem take_split {α : Type} {xs : List α} {k : Nat} {x : α} (h : xs[k]? = some x) : xs = xs.take k ++ x :: xs.drop (k + 1) ∧ xs.take (k + 1) = xs.take k ++ [x] := by
  obtain ⟨hk, rfl⟩ := List.getElem?_eq_some_iff.1 h
  exact ⟨by simp, by simp⟩
theorem lvsFrom_take {gs : List Gth} {k : Nat} {g : Gth} (h : gs[k]? = some g) : lvsFrom 0 (gs.take (k + 1)) = lvsFrom 0 (gs.take k) ++ lvsG k g := by
  have hk := (List.getElem?_eq_some_iff.1 h).1
  rw [(take_split h).2, lvsFrom_app]
  simp [lvsFrom, Nat.min_eq_left (Nat.le_of_lt hk)]
theorem lvs_split {gs : List Gth} {k : Nat} {g : Gth} (h : gs[k]? = some g) : ∃ rest, lvsFrom 0 gs = lvsFrom 0 (gs.take k) ++ (lvsG k g ++ rest) := by
  have hk := (List.getElem?_eq_some_iff.1 h).1
  refine ⟨lvsFrom (k + 1) (gs.drop (k + 1)), ?_⟩
  conv => lhs; rw [(take_split h).1]
  rw [lvsFrom_app]
  simp [lvsFrom, Nat.min_eq_left (Nat.le_of_lt hk)]
theorem lvsNum_mem {i k : Nat} {f : Fate} {x : Lf} (h : x ∈ lvsNum i k f) : x.gat = i ∧ x.num = k ∧ 0 ≤ x.plus ∧ (x.plus = 0 ∨ x.plus ≤ f.added) ∧ 0 ≤ x.kind ∧ x.kind ≤ 2 := by
  simp only [lvsNum, List.mem_append, List.mem_map, List.mem_range] at h
  rcases h with h | ⟨j, hj, rfl⟩
  · split at h
    · simp only [List.mem_singleton] at h
      subst h
      refine ⟨rfl, rfl, by simp, by simp, ?_, ?_⟩ <;> dsimp only <;> split <;> omega
    · cases h
  · exact ⟨rfl, rfl, by dsimp only; omega, by dsimp only; omega, by dsimp only; omega, by dsimp only; omega⟩
theorem lvsG_mem {i : Nat} {g : Gth} {x : Lf} (h : x ∈ lvsG i g) : x.gat = i ∧ 0 ≤ x.num ∧ x.num ≤ g.leaves ∧ 0 ≤ x.plus ∧ (x.plus = 0 ∨ ∃ n, x.plus ≤ (fateF g.chs n).added) := by
  simp only [lvsG, List.mem_flatMap, List.mem_range] at h
  obtain ⟨k, hk, h⟩ := h
  obtain ⟨h1, h2, h3, h4, -⟩ := lvsNum_mem h
  exact ⟨h1, by omega, by omega, h3, h4.imp id fun h => ⟨_, h⟩⟩
theorem lvsFrom_mem : ∀ {gs : List Gth} {i : Nat} {x : Lf}, x ∈ lvsFrom i gs → ∃ g, i ≤ x.gat ∧ gs[x.gat - i]? = some g ∧ x ∈ lvsG x.gat g
  | [], _, _, h => by cases h
  | g :: gs, i, x, h => by
    simp only [lvsFrom, List.mem_append] at h
    rcases h with h | h
    · have hx := (lvsG_mem h).1
      exact ⟨g, by omega, by rw [hx]; simp, by rw [hx]; exact h⟩
    · obtain ⟨g', h1, h2, h3⟩ := lvsFrom_mem h
      refine ⟨g', by omega, ?_, h3⟩
      rw [show x.gat - i = (x.gat - (i + 1)) + 1 by omega]
      simpa using h2
theorem lvs_mem {b : Bk} {x : Lf} (h : x ∈ lvs b) : ∃ g, b.gs[x.gat]? = some g ∧ x ∈ lvsG x.gat g := by
  obtain ⟨g, -, h2, h3⟩ := lvsFrom_mem h
  exact ⟨g, by simpa using h2, h3⟩
theorem lvsNum_len {i k : Nat} {f : Fate} : (lvsNum i k f).length ≤ 1 + f.added.toNat := by
  simp only [lvsNum, List.length_append, List.length_map, List.length_range]
  split <;> simp
theorem flatMap_len {α β : Type} {f : α → List β} {n : Nat} : ∀ {xs : List α}, (∀ x ∈ xs, (f x).length ≤ n) → (xs.flatMap f).length ≤ xs.length * n
  | [], _ => by simp
  | x :: xs, h => by
    have h1 := h x (by simp)
    have h2 := flatMap_len (xs := xs) fun y hy => h y (by simp [hy])
    simp only [List.flatMap_cons, List.length_append, List.length_cons, Nat.add_mul]
    omega
end Go.Proofs.YtimdmgkegdlafaaGreatDoor

/- Plain facts of the leaves of a book: their order, mates, signed leaves. Nothing of the program. -/
namespace Go.Proofs.YtimdmgkegdlafaaGreatDoor
set_option linter.unusedSimpArgs false
set_option linter.unusedVariables false

/-- The order of leaves: by gathering, Number, Plus. -/
def ltL (x y : Lf) : Prop := x.gat < y.gat ∨ (x.gat = y.gat ∧ (x.num < y.num ∨ (x.num = y.num ∧ x.plus < y.plus)))
theorem ltL_irr (x : Lf) : ¬ ltL x x := by unfold ltL; omega
theorem lvsNum_sorted (i k : Nat) (f : Fate) : (lvsNum i k f).Pairwise ltL := by
  unfold lvsNum
  rw [List.pairwise_append]
  refine ⟨?_, ?_, ?_⟩
  · split
    · exact List.pairwise_singleton _ _
    · exact List.Pairwise.nil
  · rw [List.pairwise_map]
    exact List.pairwise_lt_range.imp fun {a b} h => Or.inr ⟨rfl, Or.inr ⟨rfl, by dsimp only; omega⟩⟩
  · intro x hx y hy
    simp only [List.mem_map, List.mem_range] at hy
    obtain ⟨j, _, rfl⟩ := hy
    split at hx
    · simp only [List.mem_singleton] at hx
      subst hx
      exact Or.inr ⟨rfl, Or.inr ⟨rfl, by dsimp only; omega⟩⟩
    · cases hx
theorem lvsG_sorted (i : Nat) (g : Gth) : (lvsG i g).Pairwise ltL := by
  unfold lvsG
  rw [List.pairwise_flatMap]
  refine ⟨fun k _ => lvsNum_sorted _ _ _, List.pairwise_lt_range.imp fun {a b} h x hx y hy => ?_⟩
  obtain ⟨h1, h2, _⟩ := lvsNum_mem hx
  obtain ⟨h3, h4, _⟩ := lvsNum_mem hy
  exact Or.inr ⟨by rw [h1, h3], Or.inl (by rw [h2, h4]; omega)⟩
theorem lvsFrom_sorted : ∀ (gs : List Gth) (i : Nat), (lvsFrom i gs).Pairwise ltL
  | [], _ => List.Pairwise.nil
  | g :: gs, i => by
    unfold lvsFrom
    rw [List.pairwise_append]
    refine ⟨lvsG_sorted i g, lvsFrom_sorted gs (i + 1), fun x hx y hy => ?_⟩
    obtain ⟨g', h, _, _⟩ := lvsFrom_mem hy
    have := (lvsG_mem hx).1
    exact Or.inl (by omega)
theorem lvs_sorted (b : Bk) : (lvs b).Pairwise ltL := lvsFrom_sorted _ _
theorem sorted_lt {xs : List Lf} (h : xs.Pairwise ltL) {i j : Nat} {x y : Lf} (hi : xs[i]? = some x) (hj : xs[j]? = some y) (hij : i < j) : ltL x y := by
  obtain ⟨h1, rfl⟩ := List.getElem?_eq_some_iff.1 hi
  obtain ⟨h2, rfl⟩ := List.getElem?_eq_some_iff.1 hj
  exact List.pairwise_iff_getElem.1 h i j h1 h2 hij
theorem sorted_inj {xs : List Lf} (h : xs.Pairwise ltL) {i j : Nat} {x : Lf} (hi : xs[i]? = some x) (hj : xs[j]? = some x) : i = j := by
  rcases Nat.lt_trichotomy i j with h1 | h1 | h1
  · exact absurd (sorted_lt h hi hj h1) (ltL_irr x)
  · exact h1
  · exact absurd (sorted_lt h hj hi h1) (ltL_irr x)
theorem find_at {xs : List Lf} (h : xs.Pairwise ltL) {i : Nat} {x : Lf} (hi : xs[i]? = some x) : xs.findIdx? (fun y => decide (y = x)) = some i := by
  rw [List.findIdx?_eq_some_iff_getElem]
  obtain ⟨h1, h2⟩ := List.getElem?_eq_some_iff.1 hi
  refine ⟨h1, by simp [h2], fun j hj => ?_⟩
  have hjl : j < xs.length := by omega
  have hne : xs[j] ≠ x := fun e => by
    have := sorted_inj h (List.getElem?_eq_some_iff.2 ⟨hjl, e⟩) hi
    omega
  simp [hne]
theorem find_some {xs : List Lf} {x : Lf} {k : Nat} (h : xs.findIdx? (fun y => decide (y = x)) = some k) : xs[k]? = some x := by
  rw [List.findIdx?_eq_some_iff_getElem] at h
  obtain ⟨h1, h2, _⟩ := h
  rw [List.getElem?_eq_getElem h1]
  simpa using h2
theorem find_mem {xs : List Lf} {x : Lf} (h : x ∈ xs) : ∃ k, xs.findIdx? (fun y => decide (y = x)) = some k := by
  cases hf : xs.findIdx? (fun y => decide (y = x)) with
  | some k => exact ⟨k, rfl⟩
  | none =>
    rw [List.findIdx?_eq_none_iff] at hf
    have := hf x h
    simp at this

/-- The leaves of a gathering that nothing was changed of. -/
theorem lvsNum_plain (i k : Nat) : lvsNum i k (fateF [] k) = if 0 < k then [⟨i, k, 0, 0⟩] else [] := by
  unfold lvsNum fateF
  simp
theorem lvsG_plain {i : Nat} {g : Gth} (h : g.chs = []) {x : Lf} : x ∈ lvsG i g ↔ x.gat = i ∧ 1 ≤ x.num ∧ x.num ≤ g.leaves ∧ x.plus = 0 ∧ x.kind = 0 := by
  unfold lvsG
  rw [h]
  simp only [List.mem_flatMap, List.mem_range, lvsNum_plain]
  constructor
  · rintro ⟨k, hk, hx⟩
    split at hx
    · simp only [List.mem_singleton] at hx
      subst hx
      exact ⟨rfl, by dsimp only; omega, by dsimp only; omega, rfl, rfl⟩
    · cases hx
  · rintro ⟨h1, h2, h3, h4, h5⟩
    refine ⟨x.num.toNat, by omega, ?_⟩
    rw [if_pos (by omega), List.mem_singleton]
    obtain ⟨a, b, c, d⟩ := x
    dsimp only at *
    subst h1 h4 h5
    congr 1
    omega
theorem mem_lvsFrom : ∀ {gs : List Gth} {i k : Nat} {g : Gth} {x : Lf}, gs[k]? = some g → x ∈ lvsG (i + k) g → x ∈ lvsFrom i gs
  | [], _, _, _, _, h, _ => by cases h
  | g :: gs, i, 0, g', x, h, hx => by
    simp only [List.getElem?_cons_zero, Option.some.injEq] at h
    subst h
    unfold lvsFrom
    exact List.mem_append_left _ hx
  | g :: gs, i, k + 1, g', x, h, hx => by
    unfold lvsFrom
    refine List.mem_append_right _ (mem_lvsFrom (k := k) (by simpa using h) ?_)
    rwa [show i + 1 + k = i + (k + 1) by omega]
theorem mem_lvs {b : Bk} {k : Nat} {g : Gth} {x : Lf} (h : b.gs[k]? = some g) (hx : x ∈ lvsG k g) : x ∈ lvs b := mem_lvsFrom h (by rwa [Nat.zero_add])
end Go.Proofs.YtimdmgkegdlafaaGreatDoor

/- How changes, items and books are written, as plain Lean. -/
namespace Go.Proofs.YtimdmgkegdlafaaGreatDoor
set_option linter.unusedSimpArgs false
set_option linter.unusedVariables false

/-- How a change is written. -/
def chT (c : Chg) : List UInt8 := if c.kind = 1 then 45 :: dec c.pos else if c.kind = 2 then 61 :: dec c.pos else dec c.pos ++ 43 :: dec c.many
/-- Words with a byte between each two. -/
def joinB (s : UInt8) : List (List UInt8) → List UInt8
  | [] => []
  | [x] => x
  | x :: y :: xs => x ++ s :: joinB s (y :: xs)
def chsT (cs : List Chg) : List UInt8 := if cs = [] then [] else 40 :: joinB 44 (cs.map chT) ++ [41]

/-- An item of a formula: one gathering, or all from the first signature to the last. -/
structure Itm where
  kind : Int
  fr : Int
  fl : Int
  lr : Int
  ll : Int
  leaves : Int
  chs : List Chg
def itmT (x : Itm) : List UInt8 := (if x.kind = 1 then sigT x.fr x.fl ++ 45 :: sigT x.lr x.ll else sigT x.fr x.fl) ++ dec x.leaves ++ chsT x.chs
def formulaT (signed : Int) (xs : List Itm) : List UInt8 := (xs.flatMap fun x => itmT x ++ [32]) ++ 36 :: dec signed
/-- The signature behind a lettered one (of a place among all of them). -/
def nextS (r l : Int) : Int × Int := if l < 22 then (r, l + 1) else (r + 1, 0)
def takesB (x : Itm) (g : Gth) : Bool := decide (x.chs.length = 0) && decide (g.chs.length = 0) && decide (x.leaves = g.leaves) && decide (x.ll < 23) && decide (nextS x.lr x.ll = (g.round, g.letter))
def itm1 (g : Gth) : Itm := ⟨0, g.round, g.letter, g.round, g.letter, g.leaves, g.chs⟩
/-- One more gathering behind items. -/
def itmStep (xs : List Itm) (g : Gth) : List Itm := match xs.getLast? with
  | some x => if takesB x g then xs.dropLast ++ [{ x with kind := 1, lr := g.round, ll := g.letter }] else xs ++ [itm1 g]
  | none => [itm1 g]
def itmsOf (gs : List Gth) : List Itm := gs.foldl itmStep []
def writeF (b : Bk) : List UInt8 := formulaT b.signed (itmsOf b.gs)

theorem chT_len (c : Chg) : (chT c).length ≤ 5 := by
  have h1 := show (dec c.pos).length ≤ 2 by unfold dec decN; split <;> simp
  have h2 := show (dec c.many).length ≤ 2 by unfold dec decN; split <;> simp
  unfold chT
  split
  · simp; omega
  · split <;> simp <;> omega
theorem joinB_len {s : UInt8} {n : Nat} : ∀ {xs : List (List UInt8)}, (∀ x ∈ xs, x.length ≤ n) → (joinB s xs).length ≤ xs.length * (n + 1)
  | [], _ => by simp [joinB]
  | [x], h => by have := h x (by simp); simp [joinB]; omega
  | x :: y :: xs, h => by
    have h1 := h x (by simp)
    have h2 := joinB_len (s := s) (n := n) (xs := y :: xs) fun z hz => h z (List.mem_cons_of_mem _ hz)
    simp only [joinB, List.length_append, List.length_cons, Nat.add_mul] at *
    omega
theorem chsT_len {cs : List Chg} (h : cs.length ≤ 4) : (chsT cs).length ≤ 26 := by
  unfold chsT
  split
  · simp
  · have := joinB_len (s := 44) (n := 5) (xs := cs.map chT) fun x hx => by
      obtain ⟨c, -, rfl⟩ := List.mem_map.1 hx
      exact chT_len c
    simp only [List.length_map] at this
    simp
    omega

end Go.Proofs.YtimdmgkegdlafaaGreatDoor
