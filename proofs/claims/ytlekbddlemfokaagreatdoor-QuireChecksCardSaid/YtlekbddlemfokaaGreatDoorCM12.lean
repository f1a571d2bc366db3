/- The parts Dc, Da2, Ea, Cb, Cg of the proof, joined. It holds without conditions of its own. -/
import Derived.Test.YtlekbddlemfokaaGreatDoorCM11
import Derived.Test.YtlekbddlemfokaaGreatDoorCM8
import Derived.Laws.IdiomStrings
/- What a book without an error is like: bounds of all its numbers. -/
namespace Go.Proofs.YtlekbddlemfokaaGreatDoor
set_option linter.unusedSimpArgs false
set_option linter.unusedVariables false

theorem inB_iff {lo hi x : Int} : inB lo hi x = true ↔ lo ≤ x ∧ x ≤ hi := by simp [inB]
theorem gsErr_zero : ∀ {gs : List Gth} {seen : List (Int × Int)} {last : Int × Int} {i : Nat}, (gsErr seen last i gs).2 = 0 → ∀ g ∈ gs, ∃ seen last, gthErr seen last g = 0
  | [], _, _, _, _, g, hg => by cases hg
  | x :: xs, seen, last, i, h, g, hg => by
    unfold gsErr at h
    by_cases h0 : gthErr seen last x = 0
    · rw [if_pos h0] at h
      rcases List.mem_cons.1 hg with rfl | hg
      · exact ⟨seen, last, h0⟩
      · exact gsErr_zero h g hg
    · rw [if_neg h0] at h; exact absurd h h0
theorem chsErr_zero : ∀ {cs : List Chg} {l : Int} {p : Option Chg} {i : Nat}, (chsErr l p i cs).2 = 0 → ∀ c ∈ cs, kindB c = true ∧ rangeB c l = true
  | [], _, _, _, _, c, hc => by cases hc
  | x :: xs, l, p, i, h, c, hc => by
    unfold chsErr at h
    by_cases h0 : chErr l p x = 0
    · rw [if_pos h0] at h
      rcases List.mem_cons.1 hc with rfl | hc
      · unfold chErr at h0
        by_cases hk : kindB c = false
        · rw [if_pos hk] at h0; omega
        · rw [if_neg hk] at h0
          by_cases hr : rangeB c l = false
          · rw [if_pos hr] at h0; omega
          · exact ⟨by simpa using hk, by simpa using hr⟩
      · exact chsErr_zero h c hc
    · rw [if_neg h0] at h; exact absurd h h0

/-- A gathering without an error. -/
structure GOk (g : Gth) : Prop where
  sig : sigB g.round g.letter = true
  folded : foldedB g.leaves = true
  few : g.chs.length ≤ 4
  chs : (chsErr g.leaves none 0 g.chs).2 = 0
theorem gthErr_zero {seen : List (Int × Int)} {last : Int × Int} {g : Gth} (h : gthErr seen last g = 0) : GOk g := by
  unfold gthErr at h
  by_cases h1 : sigB g.round g.letter = false
  · rw [if_pos h1] at h; omega
  rw [if_neg h1] at h
  by_cases h2 : (g.round, g.letter) ∈ seen
  · rw [if_pos h2] at h; omega
  rw [if_neg h2] at h
  by_cases h3 : g.letter < 23 ∧ behindB g.round g.letter last.1 last.2 = false
  · rw [if_pos h3] at h; omega
  rw [if_neg h3] at h
  by_cases h4 : foldedB g.leaves = false
  · rw [if_pos h4] at h; omega
  rw [if_neg h4] at h
  by_cases h5 : 4 < g.chs.length
  · rw [if_pos h5] at h; omega
  rw [if_neg h5] at h
  exact ⟨by simpa using h1, by simpa using h4, by omega, h⟩
theorem GOk.leaves {g : Gth} (h : GOk g) : 1 ≤ g.leaves ∧ g.leaves ≤ 12 := by
  have := h.folded
  simp only [foldedB, Bool.or_eq_true, Bool.and_eq_true, decide_eq_true_eq, inB_iff] at this
  omega
theorem GOk.round {g : Gth} (h : GOk g) : 1 ≤ g.round ∧ g.round ≤ 3 := by
  have := h.sig
  simp only [sigB, Bool.and_eq_true, inB_iff] at this
  omega
theorem GOk.letter {g : Gth} (h : GOk g) : 0 ≤ g.letter ∧ g.letter ≤ 24 := by
  have := h.sig
  simp only [sigB, Bool.and_eq_true, inB_iff] at this
  omega
theorem GOk.ch {g : Gth} (h : GOk g) {c : Chg} (hc : c ∈ g.chs) : (c.kind = 1 ∨ c.kind = 2 ∨ c.kind = 3) ∧ 0 ≤ c.pos ∧ c.pos ≤ g.leaves ∧ 0 ≤ c.many ∧ c.many ≤ 4 := by
  obtain ⟨hk, hr⟩ := chsErr_zero h.chs c hc
  simp only [kindB, Bool.or_eq_true, decide_eq_true_eq] at hk
  unfold rangeB at hr
  split at hr <;> simp only [Bool.and_eq_true, inB_iff, decide_eq_true_eq] at hr <;> refine ⟨by omega, by omega, by omega, by omega, by omega⟩

def errF (b : Bk) : Int := (checkF b).2.2
structure BOk (b : Bk) : Prop where
  signed : 0 ≤ b.signed ∧ b.signed ≤ 12
  len : 1 ≤ b.gs.length ∧ b.gs.length ≤ 30
  gs : ∀ g ∈ b.gs, GOk g
theorem errF_zero {b : Bk} (h : errF b = 0) : BOk b := by
  unfold errF checkF at h
  by_cases h1 : inB 0 12 b.signed = false
  · rw [if_pos h1] at h; simp at h
  rw [if_neg h1] at h
  by_cases h2 : inB 1 30 b.gs.length = false
  · rw [if_pos h2] at h; simp at h
  rw [if_neg h2] at h
  have h1' := inB_iff.1 (show inB 0 12 b.signed = true by simpa using h1)
  have h2' := inB_iff.1 (show inB 1 30 b.gs.length = true by simpa using h2)
  by_cases h3 : (gsErr [] (0, 0) 0 b.gs).2 = 0
  · exact ⟨h1', by omega, fun g hg => by obtain ⟨s, l, hz⟩ := gsErr_zero h3 g hg; exact gthErr_zero hz⟩
  · rw [if_neg h3] at h; exact absurd h h3

theorem lvsFrom_app : ∀ (xs ys : List Gth) (i : Nat), lvsFrom i (xs ++ ys) = lvsFrom i xs ++ lvsFrom (i + xs.length) ys
  | [], ys, i => by simp [lvsFrom]
  | x :: xs, ys, i => by
    simp only [List.cons_append, lvsFrom, lvsFrom_app xs ys (i + 1), List.append_assoc, List.length_cons]
    rw [show i + 1 + xs.length = i + (xs.length + 1) by omega]
theorem take_split {α : Type} {xs : List α} {k : Nat} {x : α} (h : xs[k]? = some x) : xs = xs.take k ++ x :: xs.drop (k + 1) ∧ xs.take (k + 1) = xs.take k ++ [x] := by
  obtain ⟨hk, rfl⟩ := List.getElem?_eq_some_iff.1 h
  exact ⟨by simp, by simp⟩
theorem lvsFrom_take {gs : List Gth} {k : Nat} {g : Gth} (h : gs[k]? = some g) : lvsFrom 0 (gs.take (k + 1)) = lvsFrom 0 (gs.take k) ++ lvsG k g := by
  have hk := (List.getElem?_eq_some_iff.1 h).1
  rw [(take_split h).2, lvsFrom_app]
  simp [lvsFrom, Nat.min_eq_left (Nat.le_of_lt hk)]
theorem lvs_split {gs : List Gth} {k : Nat} {g : Gth} (h : gs[k]? = some g) : ∃ rest, lvsFrom 0 gs = lvsFrom 0 (gs.take k) ++ (lvsG k g ++ rest) := by
  have hk := (List.getElem?_eq_some_iff.1 h).1
  refine ⟨lvsFrom (k + 1) (gs.drop (k + 1)), ?_⟩
  conv => lhs; rw [(take_split h).1]
  rw [lvsFrom_app]
  simp [lvsFrom, Nat.min_eq_left (Nat.le_of_lt hk)]
theorem lvsNum_mem {i k : Nat} {f : Fate} {x : Lf} (h : x ∈ lvsNum i k f) : x.gat = i ∧ x.num = k ∧ 0 ≤ x.plus ∧ (x.plus = 0 ∨ x.plus ≤ f.added) ∧ 0 ≤ x.kind ∧ x.kind ≤ 2 := by
  simp only [lvsNum, List.mem_append, List.mem_map, List.mem_range] at h
  rcases h with h | ⟨j, hj, rfl⟩
  · split at h
    · simp only [List.mem_singleton] at h
      subst h
      refine ⟨rfl, rfl, by simp, by simp, ?_, ?_⟩ <;> dsimp only <;> split <;> omega
    · cases h
  · exact ⟨rfl, rfl, by dsimp only; omega, by dsimp only; omega, by dsimp only; omega, by dsimp only; omega⟩
theorem lvsG_mem {i : Nat} {g : Gth} {x : Lf} (h : x ∈ lvsG i g) : x.gat = i ∧ 0 ≤ x.num ∧ x.num ≤ g.leaves ∧ 0 ≤ x.plus ∧ (x.plus = 0 ∨ ∃ n, x.plus ≤ (fateF g.chs n).added) := by
  simp only [lvsG, List.mem_flatMap, List.mem_range] at h
  obtain ⟨k, hk, h⟩ := h
  obtain ⟨h1, h2, h3, h4, -⟩ := lvsNum_mem h
  exact ⟨h1, by omega, by omega, h3, h4.imp id fun h => ⟨_, h⟩⟩
theorem lvsFrom_mem : ∀ {gs : List Gth} {i : Nat} {x : Lf}, x ∈ lvsFrom i gs → ∃ g, i ≤ x.gat ∧ gs[x.gat - i]? = some g ∧ x ∈ lvsG x.gat g
  | [], _, _, h => by cases h
  | g :: gs, i, x, h => by
    simp only [lvsFrom, List.mem_append] at h
    rcases h with h | h
    · have hx := (lvsG_mem h).1
      exact ⟨g, by omega, by rw [hx]; simp, by rw [hx]; exact h⟩
    · obtain ⟨g', h1, h2, h3⟩ := lvsFrom_mem h
      refine ⟨g', by omega, ?_, h3⟩
      rw [show x.gat - i = (x.gat - (i + 1)) + 1 by omega]
      simpa using h2
theorem lvs_mem {b : Bk} {x : Lf} (h : x ∈ lvs b) : ∃ g, b.gs[x.gat]? = some g ∧ x ∈ lvsG x.gat g := by
  obtain ⟨g, -, h2, h3⟩ := lvsFrom_mem h
  exact ⟨g, by simpa using h2, h3⟩
theorem lvsNum_len {i k : Nat} {f : Fate} : (lvsNum i k f).length ≤ 1 + f.added.toNat := by
  simp only [lvsNum, List.length_append, List.length_map, List.length_range]
  split <;> simp
theorem flatMap_len {α β : Type} {f : α → List β} {n : Nat} : ∀ {xs : List α}, (∀ x ∈ xs, (f x).length ≤ n) → (xs.flatMap f).length ≤ xs.length * n
  | [], _ => by simp
  | x :: xs, h => by
    have h1 := h x (by simp)
    have h2 := flatMap_len (xs := xs) fun y hy => h y (by simp [hy])
    simp only [List.flatMap_cons, List.length_append, List.length_cons, Nat.add_mul]
    omega
end Go.Proofs.YtlekbddlemfokaaGreatDoor

/- How changes, items and books are written, as plain Lean. -/
namespace Go.Proofs.YtlekbddlemfokaaGreatDoor
set_option linter.unusedSimpArgs false
set_option linter.unusedVariables false

/-- How a change is written. -/
def chT (c : Chg) : List UInt8 := if c.kind = 1 then 45 :: dec c.pos else if c.kind = 2 then 61 :: dec c.pos else dec c.pos ++ 43 :: dec c.many
/-- Words with a byte between each two. -/
def joinB (s : UInt8) : List (List UInt8) → List UInt8
  | [] => []
  | [x] => x
  | x :: y :: xs => x ++ s :: joinB s (y :: xs)
def chsT (cs : List Chg) : List UInt8 := if cs = [] then [] else 40 :: joinB 44 (cs.map chT) ++ [41]

/-- An item of a formula: one gathering, or all from the first signature to the last. -/
structure Itm where
  kind : Int
  fr : Int
  fl : Int
  lr : Int
  ll : Int
  leaves : Int
  chs : List Chg
def itmT (x : Itm) : List UInt8 := (if x.kind = 1 then sigT x.fr x.fl ++ 45 :: sigT x.lr x.ll else sigT x.fr x.fl) ++ dec x.leaves ++ chsT x.chs
def formulaT (signed : Int) (xs : List Itm) : List UInt8 := (xs.flatMap fun x => itmT x ++ [32]) ++ 36 :: dec signed
/-- The signature behind a lettered one (of a place among all of them). -/
def nextS (r l : Int) : Int × Int := if l < 22 then (r, l + 1) else (r + 1, 0)
def takesB (x : Itm) (g : Gth) : Bool := decide (x.chs.length = 0) && decide (g.chs.length = 0) && decide (x.leaves = g.leaves) && decide (x.ll < 23) && decide (nextS x.lr x.ll = (g.round, g.letter))
def itm1 (g : Gth) : Itm := ⟨0, g.round, g.letter, g.round, g.letter, g.leaves, g.chs⟩
/-- One more gathering behind items. -/
def itmStep (xs : List Itm) (g : Gth) : List Itm := match xs.getLast? with
  | some x => if takesB x g then xs.dropLast ++ [{ x with kind := 1, lr := g.round, ll := g.letter }] else xs ++ [itm1 g]
  | none => [itm1 g]
def itmsOf (gs : List Gth) : List Itm := gs.foldl itmStep []
def writeF (b : Bk) : List UInt8 := formulaT b.signed (itmsOf b.gs)

theorem chT_len (c : Chg) : (chT c).length ≤ 5 := by
  have h1 := show (dec c.pos).length ≤ 2 by unfold dec decN; split <;> simp
  have h2 := show (dec c.many).length ≤ 2 by unfold dec decN; split <;> simp
  unfold chT
  split
  · simp; omega
  · split <;> simp <;> omega
theorem joinB_len {s : UInt8} {n : Nat} : ∀ {xs : List (List UInt8)}, (∀ x ∈ xs, x.length ≤ n) → (joinB s xs).length ≤ xs.length * (n + 1)
  | [], _ => by simp [joinB]
  | [x], h => by have := h x (by simp); simp [joinB]; omega
  | x :: y :: xs, h => by
    have h1 := h x (by simp)
    have h2 := joinB_len (s := s) (n := n) (xs := y :: xs) fun z hz => h z (List.mem_cons_of_mem _ hz)
    simp only [joinB, List.length_append, List.length_cons, Nat.add_mul] at *
    omega
theorem chsT_len {cs : List Chg} (h : cs.length ≤ 4) : (chsT cs).length ≤ 26 := by
  unfold chsT
  split
  · simp
  · have := joinB_len (s := 44) (n := 5) (xs := cs.map chT) fun x hx => by
      obtain ⟨c, -, rfl⟩ := List.mem_map.1 hx
      exact chT_len c
    simp only [List.length_map] at this
    simp
    omega

end Go.Proofs.YtlekbddlemfokaaGreatDoor

/- The readers of formulas and leaves, as plain Lean. -/
namespace Go.Proofs.YtlekbddlemfokaaGreatDoor
set_option linter.unusedSimpArgs false
set_option linter.unusedVariables false

abbrev Bs := List UInt8

/-- A word is read if it comes next. -/
def skipF (w s : Bs) : Option Bs := if w.isPrefixOf s then some (s.drop w.length) else none
def digitF : Bs → Option (Int × Bs)
  | c :: t => if 48 ≤ c.toNat ∧ c.toNat ≤ 57 then some ((c.toNat : Int) - 48, t) else none
  | [] => none
/-- The digits behind one that is not a zero: none of the numbers may be above 12. -/
def numF : Nat → Int → Bs → Option (Int × Bs)
  | 0, n, s => some (n, s)
  | f + 1, n, s => if n ≤ 0 then some (n, s) else match digitF s with
    | none => some (n, s)
    | some (d, t) => if 12 < 10 * n + d then none else numF f (10 * n + d) t
def numberF (s : Bs) : Option (Int × Bs) := match digitF s with
  | none => none
  | some (n, t) => numF 3 n t
def roundF (s : Bs) : Int × Bs := match skipF [50] s with
  | some t => (2, t)
  | none => match skipF [51] s with
    | some t => (3, t)
    | none => (1, s)
def letterAtF : List UInt8 → Int → Bs → Option (Int × Bs)
  | [], _, _ => none
  | c :: cs, i, s => match skipF [c] s with
    | some t => some (i, t)
    | none => letterAtF cs (i + 1) s
def letterF (s : Bs) : Option (Int × Bs) := match letterAtF letterL 0 s with
  | some r => some r
  | none => match skipF [112, 105] s with
    | some t => some (23, t)
    | none => match skipF [99, 104, 105] s with
      | some t => some (24, t)
      | none => none
def sigF (s : Bs) : Option ((Int × Int) × Bs) := match letterF (roundF s).2 with
  | some (l, t) => some (((roundF s).1, l), t)
  | none => none
def changeF (s : Bs) : Option (Chg × Bs) := match skipF [45] s with
  | some t => match numberF t with
    | some (n, u) => some (⟨1, n, 0⟩, u)
    | none => none
  | none => match skipF [61] s with
    | some t => match numberF t with
      | some (n, u) => some (⟨2, n, 0⟩, u)
      | none => none
    | none => match numberF s with
      | none => none
      | some (n, t) => match skipF [43] t with
        | none => none
        | some u => match numberF u with
          | none => none
          | some (m, v) => some (⟨3, n, m⟩, v)
/-- The changes behind the first one; f: how many there may be yet. -/
def moreF : Nat → List Chg → Bs → Option (List Chg × Bs)
  | 0, cs, s => match skipF [44] s with
    | some _ => none
    | none => match skipF [41] s with
      | some u => some (cs, u)
      | none => none
  | f + 1, cs, s => match skipF [44] s with
    | some t => match changeF t with
      | some (c, u) => moreF f (cs ++ [c]) u
      | none => none
    | none => match skipF [41] s with
      | some u => some (cs, u)
      | none => none
def changesF (s : Bs) : Option (List Chg × Bs) := match skipF [40] s with
  | none => some ([], s)
  | some t => match changeF t with
    | none => none
    | some (c, u) => moreF 3 [c] u
def itemF (s : Bs) : Option (Itm × Bs) := match sigF s with
  | none => none
  | some (a, t) => match skipF [45] t with
    | none => match numberF t with
      | none => none
      | some (n, u) => match changesF u with
        | none => none
        | some (cs, v) => some (⟨0, a.1, a.2, a.1, a.2, n, cs⟩, v)
    | some t => match sigF t with
      | none => none
      | some (z, u) => if a.2 < 23 ∧ z.2 < 23 ∧ behindB z.1 z.2 a.1 a.2 = true then match numberF u with
          | none => none
          | some (n, v) => some (⟨1, a.1, a.2, z.1, z.2, n, []⟩, v)
        else none
def itemsF : Nat → Bs → Option (List Itm × Bs)
  | 0, _ => none
  | f + 1, s => match skipF [36] s with
    | some t => some ([], t)
    | none => match itemF s with
      | none => none
      | some (x, t) => match skipF [32] t with
        | none => none
        | some u => match itemsF f u with
          | none => none
          | some (xs, v) => some (x :: xs, v)
/-- The signatures from one to another one. -/
def runS : Nat → Int × Int → Int × Int → List (Int × Int)
  | 0, s, _ => [s]
  | n + 1, s, l => if s = l then [s] else s :: runS n (nextS s.1 s.2) l
def rankS (r l : Int) : Int := (r - 1) * 23 + l
def itmGs (x : Itm) : List Gth := if x.kind = 0 then [⟨x.fr, x.fl, x.leaves, x.chs⟩] else (runS (rankS x.lr x.ll - rankS x.fr x.fl).toNat (x.fr, x.fl) (x.lr, x.ll)).map fun s => ⟨s.1, s.2, x.leaves, []⟩
def gsOf (xs : List Itm) : List Gth := xs.flatMap itmGs
def bookF (s : Bs) : Option (Bk × Bs) := match itemsF (s.length + 1) s with
  | none => none
  | some (xs, t) => match numberF t with
    | none => none
    | some (n, u) => some (⟨n, gsOf xs⟩, u)
/-- All of a text. -/
def allF {α : Type} (r : Option (α × Bs)) : Option α := match r with
  | some (x, []) => some x
  | _ => none
def readF (s : Bs) : Bk × Int := if 1000 < s.length then (⟨0, []⟩, 3) else match allF (bookF s) with
  | none => (⟨0, []⟩, 6)
  | some b => if errF b = 0 then (b, 0) else (⟨0, []⟩, 6)

/-- The name of a leaf. -/
def plusF (s : Bs) : Option (Int × Bs) := match skipF [43] s with
  | none => some (0, s)
  | some t => match numberF t with
    | none => none
    | some (p, u) => if p = 0 then none else some (p, u)
def leafNameF (s : Bs) : Option ((Int × Int × Int × Int) × Bs) := match sigF s with
  | none => none
  | some (a, t) => match numberF t with
    | none => none
    | some (n, u) => match plusF u with
      | none => none
      | some (p, v) => if possibleB n p = true then some ((a.1, a.2, n, p), v) else none

theorem skipF_len {w s t : Bs} (h : skipF w s = some t) : t.length + w.length = s.length := by
  unfold skipF at h
  split at h
  · rename_i hp
    have := (List.isPrefixOf_iff_prefix.1 hp).length_le
    cases h
    simp only [List.length_drop]
    omega
  · cases h
theorem digitF_len {s t : Bs} {n : Int} (h : digitF s = some (n, t)) : t.length + 1 = s.length ∧ 0 ≤ n ∧ n ≤ 9 := by
  cases s with
  | nil => cases h
  | cons c s =>
    simp only [digitF] at h
    split at h
    · simp only [Option.some.injEq, Prod.mk.injEq] at h
      obtain ⟨rfl, rfl⟩ := h
      refine ⟨rfl, by omega, by omega⟩
    · cases h
theorem numF_len : ∀ {f : Nat} {n m : Int} {s t : Bs}, numF f n s = some (m, t) → 0 ≤ n ∧ n ≤ 12 → t.length ≤ s.length ∧ 0 ≤ m ∧ m ≤ 12
  | 0, n, m, s, t, h, hn => by
    simp only [numF, Option.some.injEq, Prod.mk.injEq] at h
    obtain ⟨rfl, rfl⟩ := h
    exact ⟨Nat.le_refl _, hn⟩
  | f + 1, n, m, s, t, h, hn => by
    simp only [numF] at h
    split at h
    · simp only [Option.some.injEq, Prod.mk.injEq] at h
      obtain ⟨rfl, rfl⟩ := h
      exact ⟨Nat.le_refl _, hn⟩
    · split at h
      · simp only [Option.some.injEq, Prod.mk.injEq] at h
        obtain ⟨rfl, rfl⟩ := h
        exact ⟨Nat.le_refl _, hn⟩
      · rename_i d u hd
        split at h
        · cases h
        · have := digitF_len hd
          have := numF_len h (by omega)
          omega
theorem numberF_len {s t : Bs} {n : Int} (h : numberF s = some (n, t)) : t.length < s.length ∧ 0 ≤ n ∧ n ≤ 12 := by
  unfold numberF at h
  split at h
  · cases h
  · rename_i d u hd
    have := digitF_len hd
    have := numF_len h (by omega)
    omega
theorem roundF_len {s : Bs} : (roundF s).2.length ≤ s.length ∧ 1 ≤ (roundF s).1 ∧ (roundF s).1 ≤ 3 := by
  unfold roundF
  split
  · rename_i t h
    have := skipF_len h
    simp only [List.length_cons, List.length_nil] at this
    exact ⟨by simp; omega, by simp, by simp⟩
  · split
    · rename_i t h
      have := skipF_len h
      simp only [List.length_cons, List.length_nil] at this
      exact ⟨by simp; omega, by simp, by simp⟩
    · exact ⟨by simp, by simp, by simp⟩
theorem letterAtF_len : ∀ {cs : List UInt8} {i n : Int} {s t : Bs}, letterAtF cs i s = some (n, t) → t.length < s.length ∧ i ≤ n ∧ n < i + cs.length
  | [], _, _, _, _, h => by cases h
  | c :: cs, i, n, s, t, h => by
    simp only [letterAtF] at h
    split at h
    · rename_i u hu
      have := skipF_len hu
      simp only [Option.some.injEq, Prod.mk.injEq] at h
      obtain ⟨rfl, rfl⟩ := h
      simp only [List.length_cons, List.length_nil] at this ⊢
      omega
    · have := letterAtF_len h
      simp only [List.length_cons] at this ⊢
      omega
theorem letterF_len {s t : Bs} {n : Int} (h : letterF s = some (n, t)) : t.length < s.length ∧ 0 ≤ n ∧ n ≤ 24 := by
  unfold letterF at h
  split at h
  · rename_i r hr
    cases h
    have := letterAtF_len hr
    have e : letterL.length = 23 := rfl
    omega
  · split at h
    · rename_i u hu
      have := skipF_len hu
      simp only [Option.some.injEq, Prod.mk.injEq] at h
      obtain ⟨rfl, rfl⟩ := h
      simp only [List.length_cons, List.length_nil] at this
      omega
    · split at h
      · rename_i u hu
        have := skipF_len hu
        simp only [Option.some.injEq, Prod.mk.injEq] at h
        obtain ⟨rfl, rfl⟩ := h
        simp only [List.length_cons, List.length_nil] at this
        omega
      · cases h
theorem sigF_len {s t : Bs} {a : Int × Int} (h : sigF s = some (a, t)) : t.length < s.length ∧ sigB a.1 a.2 = true := by
  unfold sigF at h
  split at h
  · rename_i l u hu
    simp only [Option.some.injEq, Prod.mk.injEq] at h
    obtain ⟨rfl, rfl⟩ := h
    have h1 := letterF_len hu
    have h2 := roundF_len (s := s)
    refine ⟨by omega, ?_⟩
    simp only [sigB, inB, Bool.and_eq_true, decide_eq_true_eq]
    omega
  · cases h
/-- A change that is read: its numbers are at most 12. -/
def ChRead (c : Chg) : Prop := (c.kind = 1 ∨ c.kind = 2 ∨ c.kind = 3) ∧ 0 ≤ c.pos ∧ c.pos ≤ 12 ∧ 0 ≤ c.many ∧ c.many ≤ 12
theorem changeF_len {s t : Bs} {c : Chg} (h : changeF s = some (c, t)) : t.length < s.length ∧ ChRead c := by
  unfold changeF at h
  split at h
  · rename_i u hu
    have := skipF_len hu
    split at h
    · rename_i n v hn
      have := numberF_len hn
      simp only [Option.some.injEq, Prod.mk.injEq] at h
      obtain ⟨rfl, rfl⟩ := h
      simp only [List.length_cons, List.length_nil] at *
      exact ⟨by omega, Or.inl rfl, this.2.1, this.2.2, by simp, by simp⟩
    · cases h
  · split at h
    · rename_i u hu
      have := skipF_len hu
      split at h
      · rename_i n v hn
        have := numberF_len hn
        simp only [Option.some.injEq, Prod.mk.injEq] at h
        obtain ⟨rfl, rfl⟩ := h
        simp only [List.length_cons, List.length_nil] at *
        exact ⟨by omega, Or.inr (Or.inl rfl), this.2.1, this.2.2, by simp, by simp⟩
      · cases h
    · split at h
      · cases h
      · rename_i n v hn
        have h1 := numberF_len hn
        split at h
        · cases h
        · rename_i u hu
          have h2 := skipF_len hu
          split at h
          · cases h
          · rename_i m x hm
            have h3 := numberF_len hm
            simp only [Option.some.injEq, Prod.mk.injEq] at h
            obtain ⟨rfl, rfl⟩ := h
            simp only [List.length_cons, List.length_nil] at *
            exact ⟨by omega, Or.inr (Or.inr rfl), h1.2.1, h1.2.2, h3.2.1, h3.2.2⟩
theorem moreF_len : ∀ {f : Nat} {cs ds : List Chg} {s t : Bs}, moreF f cs s = some (ds, t) → (∀ c ∈ cs, ChRead c) → t.length < s.length ∧ (∀ c ∈ ds, ChRead c) ∧ ds.length ≤ cs.length + f ∧ cs.length ≤ ds.length
  | 0, cs, ds, s, t, h, hc => by
    simp only [moreF] at h
    split at h
    · cases h
    · split at h
      · rename_i u hu
        have := skipF_len hu
        simp only [Option.some.injEq, Prod.mk.injEq] at h
        obtain ⟨rfl, rfl⟩ := h
        simp only [List.length_cons, List.length_nil] at this
        exact ⟨by omega, hc, by omega, by omega⟩
      · cases h
  | f + 1, cs, ds, s, t, h, hc => by
    simp only [moreF] at h
    split at h
    · rename_i u hu
      have := skipF_len hu
      split at h
      · rename_i c v hv
        have h1 := changeF_len hv
        obtain ⟨h2, h3, h4, h5⟩ := moreF_len h (fun c' hc' => by
          rcases List.mem_append.1 hc' with h | h
          · exact hc _ h
          · simp only [List.mem_singleton] at h; subst h; exact h1.2)
        simp only [List.length_append, List.length_cons, List.length_nil] at *
        exact ⟨by omega, h3, by omega, by omega⟩
      · cases h
    · split at h
      · rename_i u hu
        have := skipF_len hu
        simp only [Option.some.injEq, Prod.mk.injEq] at h
        obtain ⟨rfl, rfl⟩ := h
        simp only [List.length_cons, List.length_nil] at this
        exact ⟨by omega, hc, by omega, by omega⟩
      · cases h
theorem changesF_len {s t : Bs} {cs : List Chg} (h : changesF s = some (cs, t)) : t.length ≤ s.length ∧ (∀ c ∈ cs, ChRead c) ∧ cs.length ≤ 4 := by
  unfold changesF at h
  split at h
  · simp only [Option.some.injEq, Prod.mk.injEq] at h
    obtain ⟨rfl, rfl⟩ := h
    exact ⟨Nat.le_refl _, (fun c hc => by cases hc), by simp⟩
  · rename_i u hu
    have := skipF_len hu
    split at h
    · cases h
    · rename_i c v hv
      have h1 := changeF_len hv
      obtain ⟨h2, h3, h4, -⟩ := moreF_len h (fun c' hc' => by simp only [List.mem_singleton] at hc'; subst hc'; exact h1.2)
      simp only [List.length_cons, List.length_nil] at *
      exact ⟨by omega, h3, by omega⟩
/-- An item that is read. -/
structure ItRead (x : Itm) : Prop where
  first : sigB x.fr x.fl = true
  last : sigB x.lr x.ll = true
  leaves : 0 ≤ x.leaves ∧ x.leaves ≤ 12
  few : x.chs.length ≤ 4
  chs : ∀ c ∈ x.chs, ChRead c
  kind : (x.kind = 0 ∧ x.fr = x.lr ∧ x.fl = x.ll) ∨ (x.kind = 1 ∧ x.fl < 23 ∧ x.ll < 23 ∧ behindB x.lr x.ll x.fr x.fl = true ∧ x.chs = [])
theorem itemF_len {s t : Bs} {x : Itm} (h : itemF s = some (x, t)) : t.length < s.length ∧ ItRead x := by
  unfold itemF at h
  split at h
  · cases h
  · rename_i a u hu
    have h1 := sigF_len hu
    split at h
    · split at h
      · cases h
      · rename_i n v hv
        have h2 := numberF_len hv
        split at h
        · cases h
        · rename_i cs y hy
          have h3 := changesF_len hy
          simp only [Option.some.injEq, Prod.mk.injEq] at h
          obtain ⟨rfl, rfl⟩ := h
          exact ⟨by omega, h1.2, h1.2, h2.2, h3.2.2, h3.2.1, Or.inl ⟨rfl, rfl, rfl⟩⟩
    · rename_i u2 hu2
      have := skipF_len hu2
      split at h
      · cases h
      · rename_i z v hv
        have h2 := sigF_len hv
        split at h
        · rename_i hc
          split at h
          · cases h
          · rename_i n y hy
            have h3 := numberF_len hy
            simp only [Option.some.injEq, Prod.mk.injEq] at h
            obtain ⟨rfl, rfl⟩ := h
            exact ⟨by omega, h1.2, h2.2, h3.2, by simp, (fun c hc => by cases hc), Or.inr ⟨rfl, hc.1, hc.2.1, hc.2.2, rfl⟩⟩
        · cases h
theorem itemsF_more : ∀ {f : Nat} {s : Bs} (g : Nat), s.length < f → itemsF (f + g) s = itemsF f s
  | 0, _, _, h => by omega
  | f + 1, s, g, h => by
    rw [show f + 1 + g = (f + g) + 1 by omega]
    simp only [itemsF]
    split
    · rfl
    · split
      · rfl
      · rename_i x t hx
        have h1 := itemF_len hx
        split
        · rfl
        · rename_i u hu
          have h2 := skipF_len hu
          rw [itemsF_more g (by omega)]
/-- What is left to read behind some items. -/
theorem itemsF_step {f : Nat} {s t u : Bs} {x : Itm} (h0 : skipF [36] s = none) (hx : itemF s = some (x, t)) (hu : skipF [32] t = some u) : itemsF (f + 1) s = (itemsF f u).map fun r => (x :: r.1, r.2) := by
  simp only [itemsF, h0, hx, hu]
  cases itemsF f u <;> rfl

end Go.Proofs.YtlekbddlemfokaaGreatDoor

/- The reference: how a number and a signature are written; the signature behind another one; Sig, Next. -/
namespace Go.Proofs.YtlekbddlemfokaaGreatDoor
set_option linter.unusedSimpArgs false
set_option linter.unusedVariables false
open Go Go.RowKit Go.Sort Go.BigFrame

/-- The digits of a number. -/
def digN (n : Nat) : Bs := if n < 10 then [UInt8.ofNat (48 + n)] else digN (n / 10) ++ [UInt8.ofNat (48 + n % 10)]
theorem digN_small {n : Nat} (h : n < 10) : digN n = [UInt8.ofNat (48 + n)] := by rw [digN, if_pos h]
theorem digN_big {n : Nat} (h : ¬ n < 10) : digN n = digN (n / 10) ++ [UInt8.ofNat (48 + n % 10)] := by rw [digN, if_neg h]
theorem digN_dec {n : Nat} (h : n < 100) : digN n = decN n := by
  unfold decN
  split
  · exact digN_small (by omega)
  · rw [digN_big (by omega), digN_small (by omega)]; rfl

/-- The string of a new slice of one byte. -/
theorem conv_one (W : World) (x : Nat) (z : Int) (hz : z = x) (hx : x < 256) :
    (convert 115 9 (.slice (some ⟨W.heap.size, 0, none⟩) 1 1)).run Tryz.prog (W.alloc (.cells #[.int .u8 z] 5)) = .ok (.string ⟨[UInt8.ofNat x].toArray⟩) (W.alloc (.cells #[.int .u8 z] 5)) := by
  subst hz
  refine run_convert_bytes_back (P := Tryz.prog) _ _ _ 5 ⟨W.heap.size, 0, none⟩ 1 [UInt8.ofNat x] Tryz.underlying115 Tryz.underlying5 Tryz.underlying9 ?_
  intro j hj
  obtain rfl : j = 0 := by simp at hj; omega
  have h := World.cell?_alloc_mark W #[.int .u8 (x : Int)] 5 (0, 0) 0
  have e : ((UInt8.ofNat x).toNat : Int) = x := by simp; omega
  simp only [List.getElem_cons_zero, e]
  simp [Addr.add] at h ⊢
set_option maxRecDepth 100000 in
set_option maxHeartbeats 1000000 in
theorem refDigits_any (n : Nat) (hn : n < 10 ^ 10) (w : World) :
    Calls Tryz.prog 49 #[.int .i64 n] w fun e w' => e = .returned (S (digN n)) ∧ Below w.heap.size w w' := by
  have hn0 : (decide ((n : Int) < 0)) = false := decide_eq_false (by omega)
  have HN := Lib.hid hn
  clear hn
  go_enter Tryz.func49, Tryz.ntmps49
  go_wp2_with fail
  have HB0 := Lib.hid (Below.refl w.heap.size w)
  go_loopw [0, 4] (fun q o wr => ∃ (m : Nat) (t : Bs) (k : Nat), q = .int .i64 m ∧ o = S t ∧ Hid (digN n = digN m ++ t ∧ m < 10 ^ k ∧ t.length + k ≤ 10 ∧ Below w.heap.size w wr)) (fun q _ _ => (intOf q).toNat)
  case atStart => exact ⟨n, [], 10, rfl, rfl, by simp, HN.out, by simp, Below.refl _ _⟩
  case round =>
    obtain ⟨m, t, k, rfl, rfl, hT⟩ := hrel
    obtain ⟨h1, h2, h3, h4⟩ := hT.out
    clear HB0 hT
    have HB := Lib.hid h4
    clear h4
    by_cases hm : m < 10
    · have hd : decide ((9 : Int) < (m : Int)) = false := decide_eq_false (by omega)
      have e1 : IntKind.i64.wrap (48 + (m : Int)) = 48 + (m : Int) := IntWalk.i64_in _ (by omega)
      have HF := Lib.hid h1
      clear h1 h2
      have cv := conv_one wr (48 + m) (48 + (m : Int)) (by simp) (by omega)
      have z1 : (⟨t.toArray⟩ : ByteArray).size ≤ 10 := by rw [size_bytes]; omega
      go_wp2_with fail
      go_ret
      refine ⟨ret_S (l := digN n) ?_, HB.out.alloc HB.out.size _⟩
      rw [HF.out, digN_small hm]
      apply ByteArray.ext
      simp
    · have hd : decide ((9 : Int) < (m : Int)) = true := decide_eq_true (by omega)
      have HF := Lib.hid h1
      have HM := Lib.hid h2
      clear h1 h2
      have cv := conv_one wr (48 + m % 10) (48 + (m : Int) % 10) (by omega) (by omega)
      have z1 : (⟨t.toArray⟩ : ByteArray).size ≤ 10 := by rw [size_bytes]; omega
      have e2 : IntKind.i64.wrap ((m : Int) / 10) = ((m / 10 : Nat) : Int) := by
        have := Nat.lt_of_lt_of_le HM.out (Nat.pow_le_pow_right (show 0 < 10 by decide) (show k ≤ 10 by omega))
        rw [IntWalk.i64_in _ (by omega)]
        omega
      go_wp2_with fail
      go_roundw
      case rel =>
        obtain ⟨j, rfl⟩ : ∃ j, k = j + 1 := ⟨k - 1, by
          rcases k with _ | k
          · have := HM.out; simp at this; omega
          · omega⟩
        refine ⟨m / 10, UInt8.ofNat (48 + m % 10) :: t, j, by first | rfl | rw [e2] | go_num, ?_, Lib.hid ⟨?_, ?_, ?_, HB.out.alloc HB.out.size _⟩⟩
        · refine congrArg Value.string ?_
          apply ByteArray.ext
          simp
        · rw [HF.out, digN_big hm]
          simp
        · have := HM.out
          rw [Nat.pow_succ] at this
          omega
        · simp; omega
      case measure => simp [intOf]; omega
end Go.Proofs.YtlekbddlemfokaaGreatDoor

/- The reference: how a signature is written; Sig; the signature behind another one; Next. -/
namespace Go.Proofs.YtlekbddlemfokaaGreatDoor
set_option linter.unusedSimpArgs false
set_option linter.unusedVariables false
open Go Go.RowKit Go.Sort Go.BigFrame

theorem digN_dec3 {r : Int} (h0 : 0 ≤ r) (h1 : r < 100) : digN r.toNat = dec r := digN_dec (by omega)
set_option maxRecDepth 100000 in
set_option maxHeartbeats 800000 in
theorem refWritten_any (r l : Int) (hs : sigB r l = true) (w : World) :
    Calls Tryz.prog 23 #[.agg #[.int .i64 r, .int .i64 l]] w fun e w' => e = .returned (S (sigT r l)) ∧ Below w.heap.size w w' := by
  have hb : 1 ≤ r ∧ r ≤ 3 ∧ 0 ≤ l ∧ l ≤ 24 := by simp [sigB, inB] at hs; omega
  obtain ⟨r1, r2, l1, l2⟩ := hb
  clear hs
  have z2 := dec_len r
  have zr : (⟨(dec r).toArray⟩ : ByteArray).size ≤ 2 := by rw [size_bytes]; exact z2
  have hL : Hid (l = 23 ∧ letterT l = [112, 105] ∨ l = 24 ∧ letterT l = [99, 104, 105] ∨ l < 23 ∧ letterT l = [letterL.getD l.toNat 0]) := Lib.hid (by
    unfold letterT
    by_cases h23 : l = 23
    · exact Or.inl ⟨h23, if_pos h23⟩
    by_cases h24 : l = 24
    · exact Or.inr (Or.inl ⟨h24, by rw [if_neg h23, if_pos h24]⟩)
    · exact Or.inr (Or.inr ⟨by omega, by rw [if_neg h23, if_neg h24]⟩))
  obtain ⟨k, hk⟩ : ∃ k : Nat, r = k := ⟨r.toNat, by omega⟩
  by_cases h : 1 < r
  · have hd : decide (1 < r) = true := decide_eq_true h
    have HE : Hid (sigT r l = dec r ++ letterT l) := Lib.hid (by unfold sigT; rw [if_pos h])
    have hdg := fun W => refDigits_any k (by omega) W
    rw [← hk, show digN k = dec r from by rw [← digN_dec3 (by omega) (by omega), hk]; rfl] at hdg
    have HD := Lib.hid hdg
    clear h hdg hk
    rcases hL.out with ⟨rfl, e⟩ | ⟨rfl, e⟩ | ⟨hl, e⟩
    · have HT := Lib.hid e
      clear e hL
      go_enter Tryz.func23, Tryz.ntmps23
      go_wp2_with fail
      refine (HD.out _).mono ?_
      rintro e w1 ⟨rfl, hb1⟩
      have k1 : w1.cell? ⟨w.heap.size, 1, none⟩ = some (.int .i64 23) := cell_later' hb1 (by simp [World.cell?_alloc_at])
      have hb0 : Below w.heap.size w w1 := Below.trans (by exact (by repeat (first | (refine Below.setCell ?_ ?_ _; rotate_left; · (first | omega | (simp; done) | (simp; omega) | fail)) | (refine Below.alloc ?_ ?_ _; rotate_left; · (first | omega | (simp; done) | (simp; omega) | fail)) | refine Below.drew ?_ | exact Below.refl _ _ | fail))) (hb1.mono (by simp; try omega))
      clear hb1
      go_wp2_with fail
      go_ret
      exact ⟨ret_S (by rw [HE.out, HT.out]; exact cat_bytes _ _), hb0⟩
    · have HT := Lib.hid e
      clear e hL
      go_enter Tryz.func23, Tryz.ntmps23
      go_wp2_with fail
      refine (HD.out _).mono ?_
      rintro e w1 ⟨rfl, hb1⟩
      have k1 : w1.cell? ⟨w.heap.size, 1, none⟩ = some (.int .i64 24) := cell_later' hb1 (by simp [World.cell?_alloc_at])
      have hb0 : Below w.heap.size w w1 := Below.trans (by exact (by repeat (first | (refine Below.setCell ?_ ?_ _; rotate_left; · (first | omega | (simp; done) | (simp; omega) | fail)) | (refine Below.alloc ?_ ?_ _; rotate_left; · (first | omega | (simp; done) | (simp; omega) | fail)) | refine Below.drew ?_ | exact Below.refl _ _ | fail))) (hb1.mono (by simp; try omega))
      clear hb1
      go_wp2_with fail
      go_ret
      exact ⟨ret_S (by rw [HE.out, HT.out]; exact cat_bytes _ _), hb0⟩
    · have HT := Lib.hid e
      clear e hL
      obtain ⟨j, rfl⟩ := Int.eq_ofNat_of_zero_le l1
      rw [Int.toNat_natCast] at HT
      have hj : j < 23 := by omega
      have hc := Lib.hid (letter_cut j hj)
      have b23 : ((j : Int) == 23) = false := by simp; omega
      have b24 : ((j : Int) == 24) = false := by simp; omega
      have d1 : IntKind.i64.wrap ((j : Int) + 1) = ((j + 1 : Nat) : Int) := by rw [IntWalk.i64_in _ (by omega)]; omega
      go_enter Tryz.func23, Tryz.ntmps23
      go_wp2_with fail
      refine (HD.out _).mono ?_
      rintro e w1 ⟨rfl, hb1⟩
      have k1 : w1.cell? ⟨w.heap.size, 1, none⟩ = some (.int .i64 j) := cell_later' hb1 (by simp [World.cell?_alloc_at])
      have hb0 : Below w.heap.size w w1 := Below.trans (by exact (by repeat (first | (refine Below.setCell ?_ ?_ _; rotate_left; · (first | omega | (simp; done) | (simp; omega) | fail)) | (refine Below.alloc ?_ ?_ _; rotate_left; · (first | omega | (simp; done) | (simp; omega) | fail)) | refine Below.drew ?_ | exact Below.refl _ _ | fail))) (hb1.mono (by simp; try omega))
      clear hb1
      go_wp2_with fail
      go_ret
      exact ⟨ret_S (by rw [HE.out, HT.out, hc.out]; exact cat_bytes _ _), hb0⟩
  · have hd : decide (1 < r) = false := decide_eq_false h
    have HE : Hid (sigT r l = letterT l) := Lib.hid (by unfold sigT; rw [if_neg h]; rfl)
    clear h hk
    rcases hL.out with ⟨rfl, e⟩ | ⟨rfl, e⟩ | ⟨hl, e⟩
    · have HT := Lib.hid e
      clear e hL
      go_enter Tryz.func23, Tryz.ntmps23
      go_wp2_with fail
      go_ret
      exact ⟨by rw [HE.out, HT.out]; rfl, (by repeat (first | exact Below.refl _ _ | assumption | (refine Below.alloc ?_ ?_ _; rotate_left; · (first | omega | (simp; done) | (simp; omega) | (simp at *; omega) | fail)) | (refine Below.setCell ?_ ?_ _; rotate_left; · (first | omega | (simp; done) | (simp; omega) | (simp at *; omega) | fail)) | refine Below.drew ?_ | fail))⟩
    · have HT := Lib.hid e
      clear e hL
      go_enter Tryz.func23, Tryz.ntmps23
      go_wp2_with fail
      go_ret
      exact ⟨by rw [HE.out, HT.out]; rfl, (by repeat (first | exact Below.refl _ _ | assumption | (refine Below.alloc ?_ ?_ _; rotate_left; · (first | omega | (simp; done) | (simp; omega) | (simp at *; omega) | fail)) | (refine Below.setCell ?_ ?_ _; rotate_left; · (first | omega | (simp; done) | (simp; omega) | (simp at *; omega) | fail)) | refine Below.drew ?_ | fail))⟩
    · have HT := Lib.hid e
      clear e hL
      obtain ⟨j, rfl⟩ := Int.eq_ofNat_of_zero_le l1
      rw [Int.toNat_natCast] at HT
      have hj : j < 23 := by omega
      have hc := Lib.hid (letter_cut j hj)
      have b23 : ((j : Int) == 23) = false := by simp; omega
      have b24 : ((j : Int) == 24) = false := by simp; omega
      have d1 : IntKind.i64.wrap ((j : Int) + 1) = ((j + 1 : Nat) : Int) := by rw [IntWalk.i64_in _ (by omega)]; omega
      go_enter Tryz.func23, Tryz.ntmps23
      go_wp2_with fail
      go_ret
      exact ⟨ret_S (by rw [HE.out, HT.out, hc.out]; exact cat_bytes [] _), (by repeat (first | exact Below.refl _ _ | assumption | (refine Below.alloc ?_ ?_ _; rotate_left; · (first | omega | (simp; done) | (simp; omega) | (simp at *; omega) | fail)) | (refine Below.setCell ?_ ?_ _; rotate_left; · (first | omega | (simp; done) | (simp; omega) | (simp at *; omega) | fail)) | refine Below.drew ?_ | fail))⟩
end Go.Proofs.YtlekbddlemfokaaGreatDoor
