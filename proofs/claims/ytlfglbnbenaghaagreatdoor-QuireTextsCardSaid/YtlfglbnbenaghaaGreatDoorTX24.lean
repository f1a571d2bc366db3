/- The parts Ct, Pk, Cy, Pl of the proof, joined. It holds without conditions of its own. -/
import Derived.Test.YtlfglbnbenaghaaGreatDoorTX22
import Derived.Test.YtlfglbnbenaghaaGreatDoorTX8
import Derived.Test.YtlfglbnbenaghaaGreatDoorTX13
import Derived.Test.YtlfglbnbenaghaaGreatDoorTX16
import Derived.Test.YtlfglbnbenaghaaGreatDoorTX12
/- The reference's Differ. -/
namespace Go.Proofs.YtlfglbnbenaghaaGreatDoor
set_option linter.unusedSimpArgs false
set_option linter.unusedVariables false
open Go Go.RowKit Go.Sort Go.BigFrame Go.Shelf
attribute [local go_sem] Oper.semAt_some putAll

theorem bytes_other {s t : List UInt8} (h : s ≠ t) : ¬ (⟨s.toArray⟩ : ByteArray) = ⟨t.toArray⟩ := fun e => h (by
  have := congrArg ByteArray.data e
  simpa using this)
theorem text_at {b : Bk} {k : Nat} {x : Lf} (h : (lvs b)[k]? = some x) : (textsF b)[k]? = some (lfText b x) := by unfold textsF; rw [List.getElem?_map, h]; rfl
theorem name_at {b : Bk} {k : Nat} {x : Lf} (h : (lvs b)[k]? = some x) : (namesF b)[k]? = some (nameQ b x) := by unfold namesF; rw [List.getElem?_map, h]; rfl
theorem texts_len (b : Bk) : (textsF b).length = (lvs b).length := by simp [textsF]
theorem names_len (b : Bk) : (namesF b).length = (lvs b).length := by simp [namesF]
/-- Leaves of two books are written alike just if they have one name. -/
theorem text_name {b c : Bk} {x y : Lf} (he : errF b = 0) (hf : errF c = 0) (hx : x ∈ lvs b) (hy : y ∈ lvs c) : lfText b x = lfText c y ↔ nameQ b x = nameQ c y := by
  constructor
  · intro h
    have h1 := text_back he hx
    have h2 := text_back hf hy
    rw [h, h2] at h1
    exact (Option.some.inj h1).symm
  · intro h
    obtain ⟨g, hg, _⟩ := lvs_mem hx
    obtain ⟨k, hk, _⟩ := lvs_mem hy
    simp only [nameQ, hg, hk, Prod.mk.injEq] at h
    obtain ⟨h1, h2, h3, h4⟩ := h
    simp only [lfText, hg, hk, h1, h2, h3, h4]

/-- Two books in their boxes. -/
abbrev twoB (n : Nat) (b c : Bk) (a a2 : Option Addr) (cap cap2 : Nat) : List (Nat × Obj) :=
  [(n, .cells #[.int .i64 b.signed, .slice a b.gs.length cap] 24), (n + 1, .cells #[.int .i64 c.signed, .slice a2 c.gs.length cap2] 24)]
theorem twoB_start (b c : Bk) (a a2 : Option Addr) (cap cap2 : Nat) (w : World) :
    Held w (twoB w.heap.size b c a a2 cap cap2) ((w.alloc (.cells #[.int .i64 b.signed, .slice a b.gs.length cap] 24)).alloc (.cells #[.int .i64 c.signed, .slice a2 c.gs.length cap2] 24)) := by
  refine ⟨by exact (by repeat (first | (refine Below.setCell ?_ ?_ _; rotate_left; · (first | omega | (simp; done) | (simp; omega) | fail)) | (refine Below.alloc ?_ ?_ _; rotate_left; · (first | omega | (simp; done) | (simp; omega) | fail)) | refine Below.drew ?_ | exact Below.refl _ _ | fail)), fun p hp => ?_⟩
  (simp only [List.mem_cons, List.not_mem_nil, or_false] at hp)
  rcases hp with rfl | rfl
  · exact (by repeat (first | exact heap_alloc_at _ _ _ (by (first | omega | (simp; done) | (simp; omega) | fail)) | (refine (heap_alloc_past _ _ _ ?_).trans ?_; · (first | omega | (simp; done) | (simp; omega) | fail)) | fail))
  · exact (by repeat (first | exact heap_alloc_at _ _ _ (by (first | omega | (simp; done) | (simp; omega) | fail)) | (refine (heap_alloc_past _ _ _ ?_).trans ?_; · (first | omega | (simp; done) | (simp; omega) | fail)) | fail))



/-- What the two lists leave. -/
def DifCut2 (w : World) (b c : Bk) (va vc : Value) (a0 a' : Act) (w' : World) : Prop :=
  ∃ v1 v2, Below w.heap.size w w' ∧ StrsAt w' v1 (textsF b) ∧ StrsAt w' v2 (textsF c) ∧ a' = { tmps := putAll a0.tmps [(29, va), (30, v1), (31, vc), (32, v2), (9, v1), (10, v2)], defers := [] }

end Go.Proofs.YtlfglbnbenaghaaGreatDoor

/- One change of a gathering without others: what becomes of the leaves. -/
namespace Go.Proofs.YtlfglbnbenaghaaGreatDoor
set_option linter.unusedSimpArgs false
set_option linter.unusedVariables false
open Go

/-- The book whose k-th gathering has these changes. -/
def withC (b : Bk) (k : Nat) (g : Gth) (cs : List Chg) : Bk := ⟨b.signed, b.gs.set k ⟨g.round, g.letter, g.leaves, cs⟩⟩
theorem withC_at {b : Bk} {k : Nat} {g : Gth} (hg : b.gs[k]? = some g) (cs : List Chg) : (withC b k g cs).gs[k]? = some ⟨g.round, g.letter, g.leaves, cs⟩ := by
  have hk := (List.getElem?_eq_some_iff.1 hg).1
  show (b.gs.set k _)[k]? = _
  rw [List.getElem?_set_self hk]
theorem gthErr_chs {seen : List (Int × Int)} {last : Int × Int} {g : Gth} {cs : List Chg} (h : gthErr seen last g = 0) (hl : cs.length ≤ 4) (hc : (chsErr g.leaves none 0 cs).2 = 0) : gthErr seen last ⟨g.round, g.letter, g.leaves, cs⟩ = 0 := by
  unfold gthErr at h ⊢
  dsimp only
  split at h
  · exact absurd h (by decide)
  · rename_i h1
    rw [if_neg h1]
    split at h
    · exact absurd h (by decide)
    · rename_i h2
      rw [if_neg h2]
      split at h
      · exact absurd h (by decide)
      · rename_i h3
        rw [if_neg h3]
        split at h
        · exact absurd h (by decide)
        · rename_i h4
          rw [if_neg h4, if_neg (by omega)]
          exact hc
theorem gsErr_set : ∀ (gs : List Gth) (k : Nat) (g : Gth) (cs : List Chg) (seen : List (Int × Int)) (last : Int × Int) (i : Nat), gs[k]? = some g → cs.length ≤ 4 → (chsErr g.leaves none 0 cs).2 = 0 → (gsErr seen last i gs).2 = 0 → (gsErr seen last i (gs.set k ⟨g.round, g.letter, g.leaves, cs⟩)).2 = 0
  | [], k, g, cs, seen, last, i, h, _, _, _ => by cases h
  | x :: gs, 0, g, cs, seen, last, i, h, hl, hc, he => by
    simp only [List.getElem?_cons_zero, Option.some.injEq] at h
    subst h
    unfold gsErr at he
    split at he
    · rename_i h0
      show (gsErr seen last i (_ :: gs)).2 = 0
      unfold gsErr
      rw [if_pos (gthErr_chs h0 hl hc)]
      exact he
    · rename_i h0
      exact absurd he h0
  | x :: gs, k + 1, g, cs, seen, last, i, h, hl, hc, he => by
    unfold gsErr at he
    split at he
    · rename_i h0
      show (gsErr seen last i (x :: gs.set k _)).2 = 0
      unfold gsErr
      rw [if_pos h0]
      exact gsErr_set gs k g cs _ _ _ (by simpa using h) hl hc he
    · rename_i h0
      exact absurd he h0
theorem withC_ok {b : Bk} {k : Nat} {g : Gth} {cs : List Chg} (he : errF b = 0) (hg : b.gs[k]? = some g) (hl : cs.length ≤ 4) (hc : (chsErr g.leaves none 0 cs).2 = 0) : errF (withC b k g cs) = 0 := by
  obtain ⟨h1, h2, h3⟩ := err_is he
  refine err_of h1 ?_ (gsErr_set _ _ _ _ _ _ _ hg hl hc h3)
  show inB 1 30 (b.gs.set k _).length = true
  rw [List.length_set]
  exact h2
theorem one_ok {L n : Int} (kd : Int) (hk : kd = 1 ∨ kd = 2) (h1 : 1 ≤ n) (h2 : n ≤ L) : (chsErr L none 0 [⟨kd, n, 0⟩]).2 = 0 := by
  unfold chsErr chErr kindB rangeB inB
  dsimp only
  rcases hk with rfl | rfl <;> simp [chsErr, h1, h2]

/-- The leaves of a gathering without changes, up to a number and behind it. -/
def ownL (k : Nat) (m : Nat) : List Lf := if m = 0 then [] else [⟨k, m, 0, 0⟩]
theorem lvsNum_none (k m : Nat) : lvsNum k m ⟨false, false, 0⟩ = ownL k m := by
  unfold lvsNum ownL
  by_cases h : m = 0
  · simp [h]
  · rw [if_pos ⟨by omega, rfl⟩, if_neg h]
    rfl
theorem fate_other {kd n : Int} {m : Int} (h : n ≠ m) : fateF [⟨kd, n, 0⟩] m = ⟨false, false, 0⟩ := by
  unfold fateF fateStep
  simp [h]
theorem range_parts (n L : Nat) (h : n ≤ L) : List.range (L + 1) = List.range n ++ (n :: (List.range (L - n)).map fun j => n + 1 + j) := by
  have e : L + 1 = n + ((L - n) + 1) := by omega
  rw [e, List.range_add, List.range_succ_eq_map]
  simp only [List.map_cons, List.map_map]
  congr 2
  apply List.map_congr_left
  intro j _
  simp only [Function.comp, Nat.succ_eq_add_one]
  omega
def preL (k n : Nat) : List Lf := (List.range n).flatMap (ownL k)
def postL (k n L : Nat) : List Lf := ((List.range (L - n)).map fun j => n + 1 + j).flatMap (ownL k)
theorem preL_len (k n : Nat) : (preL k (n + 1)).length = n := by
  unfold preL
  induction n with
  | zero => rfl
  | succ n ih => rw [List.range_succ, List.flatMap_append, List.length_append, ih]; simp [ownL]
theorem lvsG_parts (k : Nat) (g : Gth) (cs : List Chg) (n L : Nat) (hL : g.leaves = (L : Int)) (hn : n ≤ L) (hcs : ∀ m : Nat, m ≠ n → fateF cs m = ⟨false, false, 0⟩) :
    lvsG k ⟨g.round, g.letter, g.leaves, cs⟩ = preL k n ++ (lvsNum k n (fateF cs n) ++ postL k n L) := by
  unfold lvsG
  dsimp only
  rw [hL, show ((L : Int) + 1).toNat = L + 1 by omega, range_parts n L hn, List.flatMap_append, List.flatMap_cons]
  unfold preL postL
  have h1 : ∀ (l : List Nat), (∀ m ∈ l, m ≠ n) → (l.flatMap fun m => lvsNum k m (fateF cs m)) = l.flatMap (ownL k) := by
    intro l
    induction l with
    | nil => intro _; rfl
    | cons m l ih =>
      intro h
      rw [List.flatMap_cons, List.flatMap_cons, ih (fun x hx => h x (by simp [hx])), hcs m (h m (by simp)), lvsNum_none]
  rw [h1 (List.range n) (fun m hm => by have := List.mem_range.1 hm; omega), h1 _ (fun m hm => by
    obtain ⟨j, hj, rfl⟩ := List.mem_map.1 hm
    omega)]
/-- The leaves before the leaf, and those behind it. -/
def befL (b : Bk) (k n : Nat) : List Lf := lvsFrom 0 (b.gs.take k) ++ preL k n
def behL (b : Bk) (k n L : Nat) : List Lf := postL k n L ++ lvsFrom (k + 1) (b.gs.drop (k + 1))
theorem withC_lvs {b : Bk} {k : Nat} {g : Gth} {cs : List Chg} {n L : Nat} (hg : b.gs[k]? = some g) (hL : g.leaves = (L : Int)) (hn : n ≤ L) (hcs : ∀ m : Nat, m ≠ n → fateF cs m = ⟨false, false, 0⟩) :
    lvs (withC b k g cs) = befL b k n ++ (lvsNum k n (fateF cs n) ++ behL b k n L) := by
  have hk := (List.getElem?_eq_some_iff.1 hg).1
  have e : (withC b k g cs).gs = b.gs.take k ++ (⟨g.round, g.letter, g.leaves, cs⟩ :: b.gs.drop (k + 1)) := by
    show b.gs.set k _ = _
    rw [List.set_eq_take_append_cons_drop, if_pos hk]
  unfold lvs
  rw [e, lvsFrom_app, List.length_take, Nat.min_eq_left (by omega), Nat.zero_add]
  show lvsFrom 0 (b.gs.take k) ++ (lvsG k _ ++ lvsFrom (k + 1) (b.gs.drop (k + 1))) = _
  rw [lvsG_parts k g cs n L hL hn hcs]
  simp [befL, behL]
theorem plain_lvs {b : Bk} {k : Nat} {g : Gth} {n L : Nat} (hg : b.gs[k]? = some g) (hL : g.leaves = (L : Int)) (h1 : 1 ≤ n) (hn : n ≤ L) : lvs (withC b k g []) = befL b k n ++ (⟨k, n, 0, 0⟩ :: behL b k n L) := by
  rw [withC_lvs hg hL hn (fun m _ => rfl), show fateF [] (n : Int) = ⟨false, false, 0⟩ from rfl, lvsNum_none]
  unfold ownL
  rw [if_neg (by omega)]
  rfl
theorem less_lvs {b : Bk} {k : Nat} {g : Gth} {n L : Nat} (hg : b.gs[k]? = some g) (hL : g.leaves = (L : Int)) (h1 : 1 ≤ n) (hn : n ≤ L) : lvs (withC b k g [⟨1, n, 0⟩]) = befL b k n ++ behL b k n L := by
  rw [withC_lvs hg hL hn (fun m hm => fate_other (by omega))]
  have e : fateF [⟨1, (n : Int), 0⟩] (n : Int) = ⟨true, false, 0⟩ := by unfold fateF fateStep; simp
  rw [e]
  simp [lvsNum]
theorem swap_lvs {b : Bk} {k : Nat} {g : Gth} {n L : Nat} (hg : b.gs[k]? = some g) (hL : g.leaves = (L : Int)) (h1 : 1 ≤ n) (hn : n ≤ L) : lvs (withC b k g [⟨2, n, 0⟩]) = befL b k n ++ (⟨k, n, 0, 1⟩ :: behL b k n L) := by
  rw [withC_lvs hg hL hn (fun m hm => fate_other (by omega))]
  have e : fateF [⟨2, (n : Int), 0⟩] (n : Int) = ⟨false, true, 0⟩ := by unfold fateF fateStep; simp
  rw [e]
  unfold lvsNum
  rw [if_pos ⟨by omega, rfl⟩]
  rfl
theorem withC_text {b : Bk} {k : Nat} {g : Gth} (hg : b.gs[k]? = some g) (cs : List Chg) (x : Lf) : lfText (withC b k g cs) x = lfText b x := by
  have hk := (List.getElem?_eq_some_iff.1 hg).1
  unfold lfText withC
  dsimp only
  by_cases h : k = x.gat
  · subst h
    rw [List.getElem?_set_self hk, hg]
  · rw [List.getElem?_set_ne h]
theorem withC_name {b : Bk} {k : Nat} {g : Gth} (hg : b.gs[k]? = some g) (cs : List Chg) (x : Lf) : nameQ (withC b k g cs) x = nameQ b x := by
  have hk := (List.getElem?_eq_some_iff.1 hg).1
  unfold nameQ withC
  dsimp only
  by_cases h : k = x.gat
  · subst h
    rw [List.getElem?_set_self hk, hg]
  · rw [List.getElem?_set_ne h]
theorem withC_turned {b : Bk} {k : Nat} {g : Gth} (hg : b.gs[k]? = some g) (cs : List Chg) (n p kd : Int) : turnedL (withC b k g cs) ⟨k, n, p, kd⟩ = ⟨k, g.leaves + 1 - n, p, kd⟩ := by
  unfold turnedL
  dsimp only
  rw [withC_at hg]
theorem diffAt_app : ∀ (ps xs ys : List Quad) (i : Nat), diffAt i (ps ++ xs) (ps ++ ys) = diffAt (i + ps.length) xs ys
  | [], xs, ys, i => rfl
  | p :: ps, xs, ys, i => by
    simp only [List.cons_append, diffAt, if_true]
    rw [diffAt_app ps xs ys (i + 1)]
    simp only [List.length_cons]
    congr 1
    omega
end Go.Proofs.YtlfglbnbenaghaaGreatDoor

/- The reference's Leaf and Find. -/
namespace Go.Proofs.YtlfglbnbenaghaaGreatDoor
set_option linter.unusedSimpArgs false
set_option linter.unusedVariables false
open Go Go.RowKit Go.Sort Go.BigFrame Go.Shelf
attribute [local go_sem] Oper.semAt_some putAll

theorem getL_out {α : Type} {xs : List α} {n : Int} (h : inB 0 ((xs.length : Int) - 1) n = false) : getL xs n = none := by
  simp [inB] at h
  unfold getL
  split
  · rfl
  · exact List.getElem?_eq_none (by omega)


theorem placeF_find {b : Bk} (he : errF b = 0) {s : Bs} {q : Int × Int × Int × Int} (h : allF (leafNameF s) = some q) : placeF (textsF b) s = match (lvs b).findIdx? fun x => decide (nameQ b x = q) with
    | some i => (i : Int)
    | none => -1 := by
  cases hf : (lvs b).findIdx? fun x => decide (nameQ b x = q) with
  | some i =>
    rw [List.findIdx?_eq_some_iff_getElem] at hf
    obtain ⟨h1, h2, h3⟩ := hf
    have hx : (lvs b)[i]? = some (lvs b)[i] := List.getElem?_eq_getElem h1
    refine place_found ?_ ?_
    · rw [text_at hx, (place_find he h _ (List.mem_of_getElem? hx)).2 (by simpa using h2)]
    · intro j hj e
      have hjl : j < (lvs b).length := by omega
      have hy : (lvs b)[j]? = some (lvs b)[j] := List.getElem?_eq_getElem hjl
      rw [text_at hy] at e
      have := (place_find he h _ (List.mem_of_getElem? hy)).1 (Option.some.inj e)
      have h4 := h3 j hj
      simp [this] at h4
  | none =>
    refine place_none ?_
    intro j e
    obtain ⟨hjl, _⟩ := List.getElem?_eq_some_iff.1 e
    rw [texts_len] at hjl
    have hy : (lvs b)[j]? = some (lvs b)[j] := List.getElem?_eq_getElem hjl
    rw [text_at hy] at e
    have := (place_find he h _ (List.mem_of_getElem? hy)).1 (Option.some.inj e)
    rw [List.findIdx?_eq_none_iff] at hf
    have h4 := hf _ (List.mem_of_getElem? hy)
    simp [this] at h4

end Go.Proofs.YtlfglbnbenaghaaGreatDoor

/- One change of a gathering: what Find, Leaf, Mate and Differ then say. -/
namespace Go.Proofs.YtlfglbnbenaghaaGreatDoor
set_option linter.unusedSimpArgs false
set_option linter.unusedVariables false
open Go

theorem mid_at {α : Type} (P Q : List α) (x : α) (i : Nat) : (P ++ x :: Q)[i]? = if i < P.length then P[i]? else if i = P.length then some x else Q[i - P.length - 1]? := by
  split
  · rename_i h
    exact List.getElem?_append_left h
  · rename_i h
    rw [List.getElem?_append_right (by omega)]
    split
    · rename_i h2
      rw [h2, Nat.sub_self]
      rfl
    · rename_i h2
      rw [show i - P.length = (i - P.length - 1) + 1 by omega]
      rfl
theorem less_at {α : Type} {P Q : List α} {x z : α} {i : Nat} (hi : i ≠ P.length) (h : (P ++ x :: Q)[i]? = some z) : (P ++ Q)[if P.length < i then i - 1 else i]? = some z := by
  rw [mid_at] at h
  by_cases h1 : i < P.length
  · rw [if_pos h1] at h
    rw [if_neg (by omega), List.getElem?_append_left h1]
    exact h
  · rw [if_neg h1, if_neg hi] at h
    rw [if_pos (by omega), List.getElem?_append_right (by omega), show i - 1 - P.length = i - P.length - 1 by omega]
    exact h
theorem swap_at {α : Type} {P Q : List α} {x x' z : α} {i : Nat} (h : (P ++ x :: Q)[i]? = some z) : ∃ z', (P ++ x' :: Q)[i]? = some z' ∧ (z' = z ∨ (i = P.length ∧ z = x ∧ z' = x')) := by
  rw [mid_at] at h ⊢
  by_cases h1 : i < P.length
  · rw [if_pos h1] at h ⊢
    exact ⟨z, h, Or.inl rfl⟩
  · rw [if_neg h1] at h ⊢
    by_cases h2 : i = P.length
    · rw [if_pos h2] at h ⊢
      exact ⟨x', rfl, Or.inr ⟨h2, (Option.some.inj h).symm, rfl⟩⟩
    · rw [if_neg h2] at h ⊢
      exact ⟨z, h, Or.inl rfl⟩

/-- What is given: a valid book, one of its gatherings, and a number of it. -/
structure Chd (b : Bk) (k : Nat) (g : Gth) (n L : Nat) : Prop where
  ok : errF b = 0
  at_ : b.gs[k]? = some g
  leaves : g.leaves = (L : Int)
  one : 1 ≤ n
  most : n ≤ L
section
variable {b : Bk} {k : Nat} {g : Gth} {n L : Nat}
theorem Chd.gok (h : Chd b k g n L) : GOk g := (errF_zero h.ok).gs g (List.mem_of_getElem? h.at_)
theorem Chd.plainOk (h : Chd b k g n L) : errF (withC b k g []) = 0 := withC_ok h.ok h.at_ (by simp) rfl
theorem Chd.lessOk (h : Chd b k g n L) : errF (withC b k g [⟨1, n, 0⟩]) = 0 := withC_ok h.ok h.at_ (by simp) (one_ok 1 (Or.inl rfl) (by have := h.one; omega) (by have := h.most; have := h.leaves; omega))
theorem Chd.swapOk (h : Chd b k g n L) : errF (withC b k g [⟨2, n, 0⟩]) = 0 := withC_ok h.ok h.at_ (by simp) (one_ok 2 (Or.inr rfl) (by have := h.one; omega) (by have := h.most; have := h.leaves; omega))
theorem Chd.plain (h : Chd b k g n L) : lvs (withC b k g []) = befL b k n ++ (⟨k, n, 0, 0⟩ :: behL b k n L) := plain_lvs h.at_ h.leaves h.one h.most
theorem Chd.less (h : Chd b k g n L) : lvs (withC b k g [⟨1, n, 0⟩]) = befL b k n ++ behL b k n L := less_lvs h.at_ h.leaves h.one h.most
theorem Chd.swap (h : Chd b k g n L) : lvs (withC b k g [⟨2, n, 0⟩]) = befL b k n ++ (⟨k, n, 0, 1⟩ :: behL b k n L) := swap_lvs h.at_ h.leaves h.one h.most
theorem Chd.here (h : Chd b k g n L) : (lvs (withC b k g []))[(befL b k n).length]? = some ⟨k, n, 0, 0⟩ := by
  rw [h.plain, mid_at, if_neg (by omega), if_pos rfl]
theorem Chd.name (h : Chd b k g n L) : lfText b ⟨k, n, 0, 0⟩ = nameT g.round g.letter n 0 := by
  unfold lfText
  dsimp only
  rw [h.at_]
/-- Where the leaf is found. -/
theorem Chd.find (h : Chd b k g n L) : findR (withC b k g []) (nameT g.round g.letter n 0) = .tuple #[.int .i64 ((befL b k n).length : Int), .int .i64 0] := by
  rw [← h.name, ← withC_text h.at_ []]
  exact find_back h.plainOk h.here
/-- No other leaf has its name. -/
theorem Chd.other (h : Chd b k g n L) {z : Lf} (hz : z ∈ befL b k n ++ behL b k n L) : nameQ b z ≠ nameQ b ⟨k, n, 0, 0⟩ := by
  intro e
  obtain ⟨j, hj⟩ := List.mem_iff_getElem?.1 hz
  have hi : ∃ i, i ≠ (befL b k n).length ∧ (lvs (withC b k g []))[i]? = some z := by
    by_cases h1 : j < (befL b k n).length
    · refine ⟨j, by omega, ?_⟩
      rw [List.getElem?_append_left h1] at hj
      rw [h.plain, mid_at, if_pos h1]
      exact hj
    · refine ⟨j + 1, by omega, ?_⟩
      rw [List.getElem?_append_right (by omega)] at hj
      rw [h.plain, mid_at, if_neg (by omega), if_neg (by omega), show j + 1 - (befL b k n).length - 1 = j - (befL b k n).length by omega]
      exact hj
  obtain ⟨i, hne, hi⟩ := hi
  refine hne (name_inj h.plainOk hi h.here ?_)
  rw [withC_name h.at_, withC_name h.at_]
  exact e
theorem Chd.gone (h : Chd b k g n L) : findR (withC b k g [⟨1, n, 0⟩]) (nameT g.round g.letter n 0) = .tuple #[.int .i64 0, .int .i64 4] := by
  have hb := text_back h.plainOk (List.mem_of_getElem? h.here)
  rw [withC_text h.at_, withC_name h.at_, h.name] at hb
  unfold findR
  rw [hb]
  dsimp only
  have e : (lvs (withC b k g [⟨1, n, 0⟩])).findIdx? (fun x => decide (nameQ (withC b k g [⟨1, n, 0⟩]) x = nameQ b ⟨k, n, 0, 0⟩)) = none := by
    rw [List.findIdx?_eq_none_iff]
    intro z hz
    rw [h.less] at hz
    rw [withC_name h.at_]
    exact decide_eq_false (h.other hz)
  rw [e]
  rfl
/-- The leaves' texts. -/
theorem Chd.leafP (h : Chd b k g n L) {i : Nat} {z : Lf} (hz : (lvs (withC b k g []))[i]? = some z) : leafTR (withC b k g []) (getL (lvs (withC b k g [])) i) = .tuple #[S (lfText b z), .int .i64 0] := by
  rw [getL_nat, hz]
  unfold leafTR
  dsimp only
  rw [withC_text h.at_]
theorem Chd.leafL (h : Chd b k g n L) {i : Nat} {z : Lf} (hi : i ≠ (befL b k n).length) (hz : (lvs (withC b k g []))[i]? = some z) :
    leafTR (withC b k g [⟨1, n, 0⟩]) (getL (lvs (withC b k g [⟨1, n, 0⟩])) ((if (befL b k n).length < i then i - 1 else i : Nat) : Int)) = .tuple #[S (lfText b z), .int .i64 0] := by
  rw [h.plain] at hz
  rw [getL_nat, h.less, less_at hi hz]
  unfold leafTR
  dsimp only
  rw [withC_text h.at_]
theorem Chd.leafS (h : Chd b k g n L) {i : Nat} {z : Lf} (hz : (lvs (withC b k g []))[i]? = some z) : leafTR (withC b k g [⟨2, n, 0⟩]) (getL (lvs (withC b k g [⟨2, n, 0⟩])) i) = .tuple #[S (lfText b z), .int .i64 0] := by
  rw [h.plain] at hz
  obtain ⟨z', hz', e⟩ := swap_at (x' := (⟨k, n, 0, 1⟩ : Lf)) hz
  rw [getL_nat, h.swap, hz']
  unfold leafTR
  dsimp only
  rw [withC_text h.at_]
  rcases e with rfl | ⟨_, rfl, rfl⟩ <;> rfl
/-- The mate. -/
theorem Chd.mateNone (h : Chd b k g n L) (h1 : L = 1) : mateF (withC b k g []) ((befL b k n).length : Int) = none := by
  have hn := h.one
  have hm := h.most
  have hl := h.leaves
  unfold mateF
  rw [getL_nat, h.here]
  dsimp only
  rw [withC_turned h.at_, if_neg]
  rintro ⟨-, hne⟩
  refine hne ?_
  rw [hl]
  congr 1
  omega
theorem mem_own {k m : Nat} (h : m ≠ 0) : (⟨k, m, 0, 0⟩ : Lf) ∈ ownL k m := by
  unfold ownL
  rw [if_neg h]
  simp
theorem Chd.mateSome (h : Chd b k g n L) (h1 : L ≠ 1) : ∃ i, mateF (withC b k g []) ((befL b k n).length : Int) = some i ∧ i ≠ (befL b k n).length ∧ (lvs (withC b k g []))[i]? = some ⟨k, ((L + 1 - n : Nat) : Int), 0, 0⟩ := by
  have hn := h.one
  have hm := h.most
  have hl := h.leaves
  have hf := h.gok.folded
  have hev : L + 1 - n ≠ n := by
    simp only [foldedB, Bool.or_eq_true, Bool.and_eq_true, decide_eq_true_eq] at hf
    omega
  have hmem : (⟨k, ((L + 1 - n : Nat) : Int), 0, 0⟩ : Lf) ∈ lvs (withC b k g []) := by
    rw [h.plain]
    by_cases hlt : L + 1 - n < n
    · refine List.mem_append_left _ (List.mem_append_right _ ?_)
      exact List.mem_flatMap.2 ⟨L + 1 - n, List.mem_range.2 hlt, mem_own (by omega)⟩
    · refine List.mem_append_right _ (List.mem_cons_of_mem _ (List.mem_append_left _ ?_))
      exact List.mem_flatMap.2 ⟨L + 1 - n, List.mem_map.2 ⟨L + 1 - n - n - 1, List.mem_range.2 (by omega), by omega⟩, mem_own (by omega)⟩
  obtain ⟨i, hi⟩ := List.mem_iff_getElem?.1 hmem
  refine ⟨i, ?_, ?_, hi⟩
  · unfold mateF
    rw [getL_nat, h.here]
    dsimp only
    have e : turnedL (withC b k g []) ⟨k, n, 0, 0⟩ = ⟨k, ((L + 1 - n : Nat) : Int), 0, 0⟩ := by
      rw [withC_turned h.at_, hl]
      congr 1
      omega
    rw [e, if_pos ⟨rfl, fun h => by simp only [Lf.mk.injEq] at h; omega⟩]
    exact find_at (lvs_sorted _) hi
  · rintro rfl
    rw [h.here] at hi
    simp only [Option.some.injEq, Lf.mk.injEq] at hi
    omega
theorem Chd.notIn (h : Chd b k g n L) : (⟨k, n, 0, 0⟩ : Lf) ∉ befL b k n ++ behL b k n L := fun hm => h.other hm rfl
theorem Chd.mateLess (h : Chd b k g n L) {j : Nat} (hj : (lvs (withC b k g [⟨1, n, 0⟩]))[j]? = some ⟨k, ((L + 1 - n : Nat) : Int), 0, 0⟩) : mateF (withC b k g [⟨1, n, 0⟩]) (j : Int) = none := by
  have hm := h.most
  unfold mateF
  rw [getL_nat, hj]
  dsimp only
  split
  · rw [List.findIdx?_eq_none_iff]
    intro z hz
    rw [h.less] at hz
    refine decide_eq_false (fun e => h.notIn ?_)
    rw [withC_turned h.at_, h.leaves, show (L : Int) + 1 - ((L + 1 - n : Nat) : Int) = n by omega] at e
    rw [← e]
    exact hz
  · rfl
theorem Chd.mateSwap (h : Chd b k g n L) {j : Nat} (hj : (lvs (withC b k g [⟨2, n, 0⟩]))[j]? = some ⟨k, ((L + 1 - n : Nat) : Int), 0, 0⟩) : mateF (withC b k g [⟨2, n, 0⟩]) (j : Int) = none := by
  have hm := h.most
  unfold mateF
  rw [getL_nat, hj]
  dsimp only
  split
  · rw [List.findIdx?_eq_none_iff]
    intro z hz
    rw [h.swap] at hz
    refine decide_eq_false (fun e => ?_)
    rw [withC_turned h.at_, h.leaves, show (L : Int) + 1 - ((L + 1 - n : Nat) : Int) = n by omega] at e
    subst e
    rcases List.mem_append.1 hz with hz | hz
    · exact h.notIn (List.mem_append_left _ hz)
    · rcases List.mem_cons.1 hz with hz | hz
      · simp only [Lf.mk.injEq] at hz
        omega
      · exact h.notIn (List.mem_append_right _ hz)
  · rfl
/-- Where they differ. -/
theorem names_map {b : Bk} {k : Nat} {g : Gth} (hg : b.gs[k]? = some g) (cs : List Chg) : namesF (withC b k g cs) = (lvs (withC b k g cs)).map (nameQ b) := by
  unfold namesF
  exact List.map_congr_left fun x _ => withC_name hg cs x
theorem diffAt_self : ∀ (xs : List Quad) (i : Nat), diffAt i xs xs = none
  | [], _ => rfl
  | x :: xs, i => by
    simp only [diffAt, if_true]
    exact diffAt_self xs (i + 1)
theorem Chd.differS (h : Chd b k g n L) : diffAt 0 (namesF (withC b k g [])) (namesF (withC b k g [⟨2, n, 0⟩])) = none := by
  rw [names_map h.at_, names_map h.at_, h.plain, h.swap]
  simp only [List.map_append, List.map_cons]
  have e : nameQ b ⟨k, n, 0, 1⟩ = nameQ b ⟨k, n, 0, 0⟩ := rfl
  rw [e]
  exact diffAt_self _ _
theorem Chd.differL (h : Chd b k g n L) : diffAt 0 (namesF (withC b k g [])) (namesF (withC b k g [⟨1, n, 0⟩])) = some (befL b k n).length := by
  rw [names_map h.at_, names_map h.at_, h.plain, h.less]
  simp only [List.map_append, List.map_cons]
  rw [diffAt_app, List.length_map, Nat.zero_add]
  cases hq : behL b k n L with
  | nil => rfl
  | cons y ys =>
    have hne := h.other (z := y) (List.mem_append_right _ (by rw [hq]; simp))
    simp only [List.map_cons, diffAt]
    rw [if_neg (fun e => hne e.symm)]
end
end Go.Proofs.YtlfglbnbenaghaaGreatDoor
