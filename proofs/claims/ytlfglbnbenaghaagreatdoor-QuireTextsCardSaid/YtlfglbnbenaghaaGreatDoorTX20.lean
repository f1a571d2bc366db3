/- The parts Pn, Ax, Rr, Rt, Wg of the proof, joined. It holds without conditions of its own. -/
import Derived.Test.YtlfglbnbenaghaaGreatDoorTX19
import Derived.Test.YtlfglbnbenaghaaGreatDoorTX13
import Derived.Test.YtlfglbnbenaghaaGreatDoorTX10
import Derived.Test.YtlfglbnbenaghaaGreatDoorTX3
import Derived.Test.YtlfglbnbenaghaaGreatDoorTX9
import Derived.Laws.RangeAny
import Derived.Test.YtlfglbnbenaghaaGreatDoorTX4
/- Plain facts: what the reference reads of a formula. -/
namespace Go.Proofs.YtlfglbnbenaghaaGreatDoor
set_option linter.unusedSimpArgs false
set_option linter.unusedVariables false

theorem dig_no {c : UInt8} (hc : isDig c = false) (n : Nat) : c ∉ digN n := fun h => by
  have := List.all_eq_true.1 (digN_all n) c h
  rw [hc] at this
  cases this
theorem dec_no {c : UInt8} (hc : isDig c = false) {n : Int} (h0 : 0 ≤ n) (h1 : n < 100) : c ∉ dec n := by
  rw [← show digN n.toNat = dec n from digN_dec (by omega)]
  exact dig_no hc _
theorem sigT_no {c : UInt8} (hc : isDig c = false) (hl : ∀ l : Nat, l < 25 → c ∉ letterT l) {r l : Int} (h : sigB r l = true) : c ∉ sigT r l := by
  obtain ⟨h1, h2, h3, h4⟩ := sigB_iff.1 h
  unfold sigT
  obtain ⟨m, rfl⟩ : ∃ m : Nat, l = m := ⟨l.toNat, by omega⟩
  intro hm
  rcases List.mem_append.1 hm with hm | hm
  · split at hm
    · exact dec_no hc (by omega) (by omega) hm
    · cases hm
  · exact hl m (by omega) hm
theorem chT_no {c : UInt8} (hc : isDig c = false) (h1 : c ≠ 45) (h2 : c ≠ 61) (h3 : c ≠ 43) {x : Chg} (h : ChW x) : c ∉ chT x := by
  have hp := dec_no hc h.pos.1 (by have := h.pos.2; omega)
  have hm := dec_no hc h.many.1 (by have := h.many.2; omega)
  unfold chT
  split
  · simp [h1, hp]
  · split
    · simp [h2, hp]
    · simp [h3, hp, hm]
theorem joinB_no {c d : UInt8} (hd : c ≠ d) : ∀ {xs : List Bs}, (∀ x ∈ xs, c ∉ x) → c ∉ joinB d xs
  | [], _ => by simp [joinB]
  | [x], h => by simpa [joinB] using h x (by simp)
  | x :: y :: xs, h => by
    have ih := joinB_no hd (xs := y :: xs) fun z hz => h z (List.mem_cons_of_mem _ hz)
    have h1 := h x (by simp)
    simp only [joinB, List.mem_append, List.mem_cons, not_or]
    exact ⟨h1, hd, ih⟩
theorem cutF_joinB {d : UInt8} : ∀ {xs : List Bs}, xs ≠ [] → (∀ x ∈ xs, d ∉ x) → cutF d (joinB d xs) = xs
  | [], h, _ => absurd rfl h
  | [x], _, h => by simpa [joinB] using cutF_one d x (h x (by simp))
  | x :: y :: xs, _, h => by
    have ih := cutF_joinB (xs := y :: xs) (by simp) fun z hz => h z (List.mem_cons_of_mem _ hz)
    rw [joinB, cutF_app d x _ (h x (by simp)), ih]
theorem inner_no {c : UInt8} (hc : isDig c = false) (h1 : c ≠ 45) (h2 : c ≠ 61) (h3 : c ≠ 43) (h4 : c ≠ 44) (h5 : c ≠ 41) {cs : List Chg} (h : ∀ x ∈ cs, ChW x) : c ∉ joinB 44 (cs.map chT) ++ [41] := by
  have := joinB_no (c := c) h4 (xs := cs.map chT) (fun x hx => by
    obtain ⟨y, hy, rfl⟩ := List.mem_map.1 hx
    exact chT_no hc h1 h2 h3 (h y hy))
  simp [this, h5]
theorem itmT_no32 {x : Itm} (h : ItW x) : (32 : UInt8) ∉ itmT x := by
  have h1 := sigT_no (c := 32) (by decide) (by decide) h.first
  have h2 := sigT_no (c := 32) (by decide) (by decide) h.last
  have h3 := dec_no (c := 32) (by decide) h.leaves.1 (by have := h.leaves.2; omega)
  have h4 := inner_no (c := 32) (by decide) (by decide) (by decide) (by decide) (by decide) (by decide) h.chs
  have h5 : (32 : UInt8) ∉ chsT x.chs := by
    unfold chsT
    split
    · simp
    · simpa using h4
  unfold itmT
  split <;> simp [h1, h2, h3, h5]
theorem cut_items {n : Int} (h0 : 0 ≤ n) (h1 : n < 100) : ∀ {xs : List Itm}, (∀ x ∈ xs, ItW x) → cutF 32 (itemsT xs ++ 36 :: dec n) = xs.map itmT ++ [36 :: dec n]
  | [], _ => by
    have h := dec_no (c := 32) (by decide) h0 h1
    exact cutF_one 32 (36 :: dec n) (by simp [h])
  | x :: xs, h => by
    have ih := cut_items h0 h1 (xs := xs) fun y hy => h y (List.mem_cons_of_mem _ hy)
    rw [itemsT_cons, List.append_assoc, List.cons_append, cutF_app 32 _ _ (itmT_no32 (h x (by simp))), ih]
    rfl

/-- A change as the reference reads it. -/
def chPlusF (s : Bs) : Option Chg := match cutF 43 s with
  | [u, v] => if 0 ≤ decF u ∧ 0 ≤ decF v then some ⟨3, decF u, decF v⟩ else none
  | _ => none
def changedF (s : Bs) : Option Chg := match s with
  | c :: d :: t => if c = 45 then (if 0 ≤ decF (d :: t) then some ⟨1, decF (d :: t), 0⟩ else none) else if c = 61 then (if 0 ≤ decF (d :: t) then some ⟨2, decF (d :: t), 0⟩ else none) else chPlusF s
  | _ => chPlusF s
theorem chPlusF_is {s : Bs} {c : Chg} (h : chPlusF s = some c) (h1 : c.pos < 100) (h2 : c.many < 100) : s = chT c := by
  unfold chPlusF at h
  split at h
  · rename_i u v hc
    split at h
    · rename_i hd
      cases h
      dsimp only at h1 h2
      have hj := cutF_join 43 s
      rw [hc] at hj
      have e1 := decF_dec_is hd.1 h1
      have e2 := decF_dec_is hd.2 h2
      unfold chT
      rw [if_neg (show ¬ (3 : Int) = 1 by decide), if_neg (show ¬ (3 : Int) = 2 by decide), ← e1, ← e2, ← hj]
      rfl
    · cases h
  · cases h
theorem changedF_is {s : Bs} {c : Chg} (h : changedF s = some c) (h1 : c.pos < 100) (h2 : c.many < 100) : s = chT c := by
  unfold changedF at h
  split at h
  · rename_i a d t
    split at h
    · rename_i ha
      split at h
      · rename_i hd
        cases h
        dsimp only at h1
        rw [ha]
        show 45 :: d :: t = 45 :: dec (decF (d :: t))
        rw [← decF_dec_is hd h1]
      · cases h
    · split at h
      · rename_i ha
        split at h
        · rename_i hd
          cases h
          dsimp only at h1
          rw [ha]
          show 61 :: d :: t = 61 :: dec (decF (d :: t))
          rw [← decF_dec_is hd h1]
        · cases h
      · exact chPlusF_is h h1 h2
  · exact chPlusF_is h h1 h2
theorem chPlusF_text {p m : Int} (h1 : 0 ≤ p ∧ p ≤ 12) (h2 : 0 ≤ m ∧ m ≤ 12) : chPlusF (dec p ++ 43 :: dec m) = some ⟨3, p, m⟩ := by
  unfold chPlusF
  rw [cutF_app 43 _ _ (dec_no (by decide) h1.1 (by omega)), cutF_one 43 _ (dec_no (by decide) h2.1 (by omega))]
  dsimp only
  rw [decF_dec h1.1 (by omega), decF_dec h2.1 (by omega), if_pos ⟨h1.1, h2.1⟩]
theorem changedF_text {c : Chg} (h : ChW c) : changedF (chT c) = some c := by
  obtain ⟨k, p, m⟩ := c
  obtain ⟨h1, h2, h3, h4⟩ := h
  dsimp only at *
  obtain ⟨d, u, hd, hdd⟩ := dec_head h2.1 h2.2
  have hv : decF (d :: u) = p := by rw [← hd]; exact decF_dec h2.1 (by omega)
  rcases h1 with rfl | rfl | rfl
  · have e : chT ⟨1, p, m⟩ = 45 :: d :: u := by unfold chT; dsimp only; rw [if_pos rfl, hd]
    rw [e, h4 (by decide)]
    unfold changedF
    dsimp only
    rw [if_pos rfl, hv, if_pos h2.1]
  · have e : chT ⟨2, p, m⟩ = 61 :: d :: u := by unfold chT; dsimp only; rw [if_neg (by decide), if_pos rfl, hd]
    rw [e, h4 (by decide)]
    unfold changedF
    dsimp only
    rw [if_neg (by decide), if_pos rfl, hv, if_pos h2.1]
  · have e : chT ⟨3, p, m⟩ = dec p ++ 43 :: dec m := by unfold chT; dsimp only; rw [if_neg (by decide), if_neg (by decide)]
    have hp := chPlusF_text h2 h3
    have n1 : d ≠ 45 := fun e => by rw [e] at hdd; exact absurd hdd (by decide)
    have n2 : d ≠ 61 := fun e => by rw [e] at hdd; exact absurd hdd (by decide)
    rw [e]
    rw [hd] at hp ⊢
    rw [List.cons_append] at hp ⊢
    cases u with
    | nil =>
      unfold changedF
      dsimp only [List.nil_append]
      rw [if_neg n1, if_neg n2]
      exact hp
    | cons x u =>
      unfold changedF
      dsimp only [List.cons_append]
      rw [if_neg n1, if_neg n2]
      exact hp
/-- What all of a list are read as. -/
def allOf {α : Type} (f : Bs → Option α) : List Bs → Option (List α)
  | [] => some []
  | x :: xs => match f x with
    | none => none
    | some y => match allOf f xs with
      | none => none
      | some ys => some (y :: ys)
theorem allOf_cons {α : Type} {f : Bs → Option α} {x : Bs} {xs : List Bs} {ys : List α} (h : allOf f (x :: xs) = some ys) : ∃ y zs, f x = some y ∧ allOf f xs = some zs ∧ ys = y :: zs := by
  unfold allOf at h
  split at h
  · cases h
  · rename_i y hy
    split at h
    · cases h
    · rename_i zs hz
      cases h
      exact ⟨y, zs, hy, hz, rfl⟩
theorem allOf_snoc {α : Type} {f : Bs → Option α} {x : Bs} : ∀ {xs : List Bs}, allOf f (xs ++ [x]) = match allOf f xs with
    | none => none
    | some ys => match f x with
      | none => none
      | some y => some (ys ++ [y])
  | [] => by cases h : f x <;> simp [allOf, h]
  | z :: xs => by
    have ih := allOf_snoc (f := f) (x := x) (xs := xs)
    simp only [List.cons_append, allOf, ih]
    cases f z with
    | none => rfl
    | some y =>
      cases allOf f xs with
      | none => rfl
      | some ys => cases f x <;> rfl
theorem allOf_stop {α : Type} {f : Bs → Option α} {x : Bs} (h : f x = none) : ∀ {xs ys : List Bs}, allOf f (xs ++ x :: ys) = none
  | [], ys => by simp [allOf, h]
  | z :: xs, ys => by
    have ih := allOf_stop h (xs := xs) (ys := ys)
    simp only [List.cons_append, allOf, ih]
    cases f z <;> rfl
/-- The changes in brackets, as the reference reads them. -/
def innerF (y : Bs) : Option (List Chg) := if y.getLast? = some 41 then allOf changedF (cutF 44 y.dropLast) else none
/-- What follows the signatures of an item. -/
def tailF (a b : Int × Int) (v : Bs) : Option (List Gth) := match cutF 40 v with
  | [x] => if 0 ≤ decF x then some (if b = a then [⟨a.1, a.2, decF x, []⟩] else (runS (rankS b.1 b.2 - rankS a.1 a.2).toNat a b).map fun s => ⟨s.1, s.2, decF x, []⟩) else none
  | [x, y] => if 0 ≤ decF x ∧ b = a then (match innerF y with
    | none => none
    | some cs => some [⟨a.1, a.2, decF x, cs⟩]) else none
  | _ => none
/-- The gatherings of an item, as the reference reads them. -/
def itemsF2 (s : Bs) : Option (List Gth) := match sigF s with
  | none => none
  | some (a, t) => if t.head? = some 45 then (match sigF t.tail with
    | none => none
    | some (b, v) => if 0 ≤ rankF a.1 a.2 ∧ rankF a.1 a.2 < rankF b.1 b.2 then tailF a b v else none) else tailF a a t
theorem pnInner_is {y : Bs} {cs : List Chg} (h : innerF y = some cs) (hc : ∀ c ∈ cs, c.pos < 100 ∧ c.many < 100) : 40 :: y = chsT cs := by
  unfold innerF at h
  split at h
  · rename_i hl
    have hy : y = y.dropLast ++ [41] := by
      cases y with
      | nil => cases hl
      | cons a t =>
        rw [List.getLast?_eq_some_getLast (by simp)] at hl
        have h2 := List.dropLast_concat_getLast (l := a :: t) (by simp)
        rw [Option.some.inj hl] at h2
        exact h2.symm
    have hall : ∀ (ps : List Bs) (cs : List Chg), allOf changedF ps = some cs → (∀ c ∈ cs, c.pos < 100 ∧ c.many < 100) → ps = cs.map chT := by
      intro ps
      induction ps with
      | nil => intro cs h _; cases h; rfl
      | cons p ps ih =>
        intro cs h hc
        obtain ⟨c, ds, h1, h2, rfl⟩ := allOf_cons h
        rw [List.map_cons, ← changedF_is h1 (hc c (by simp)).1 (hc c (by simp)).2, ← ih ds h2 fun d hd => hc d (List.mem_cons_of_mem _ hd)]
    have hp := hall _ _ h hc
    have hj := cutF_join 44 y.dropLast
    have hne := cutF_ne 44 y.dropLast
    rw [hp] at hj hne
    unfold chsT
    rw [if_neg (fun e => hne (by rw [e]; rfl)), hj]
    show 40 :: y = 40 :: (y.dropLast ++ [41])
    rw [← hy]
  · cases h
theorem pnInner_text {cs : List Chg} (h : ∀ c ∈ cs, ChW c) (hn : cs ≠ []) : innerF (joinB 44 (cs.map chT) ++ [41]) = some cs := by
  unfold innerF
  rw [List.getLast?_concat, if_pos rfl, List.dropLast_concat, cutF_joinB (by simpa using hn) (fun x hx => by
    obtain ⟨c, hc, rfl⟩ := List.mem_map.1 hx
    exact chT_no (by decide) (by decide) (by decide) (by decide) (h c hc))]
  have hall : ∀ (cs : List Chg), (∀ c ∈ cs, ChW c) → allOf changedF (cs.map chT) = some cs := by
    intro cs
    induction cs with
    | nil => intro _; rfl
    | cons c cs ih =>
      intro h
      rw [List.map_cons, allOf, changedF_text (h c (by simp))]
      dsimp only
      rw [ih fun d hd => h d (List.mem_cons_of_mem _ hd)]
  exact hall cs h
theorem tail_text {a b : Int × Int} {n : Int} (h0 : 0 ≤ n) (h1 : n ≤ 12) {cs : List Chg} (hc : ∀ c ∈ cs, ChW c) (hb : b ≠ a → cs = []) :
    tailF a b (dec n ++ chsT cs) = some (if b = a then [⟨a.1, a.2, n, cs⟩] else (runS (rankS b.1 b.2 - rankS a.1 a.2).toNat a b).map fun s => ⟨s.1, s.2, n, []⟩) := by
  have hd := dec_no (c := 40) (by decide) h0 (by omega)
  have hv : decF (dec n) = n := decF_dec h0 (by omega)
  unfold tailF
  by_cases hcs : cs = []
  · subst hcs
    rw [show chsT [] = [] from rfl, List.append_nil, cutF_one 40 _ hd]
    dsimp only
    rw [hv, if_pos h0]
  · have hba : b = a := Classical.byContradiction fun h => hcs (hb h)
    have e : chsT cs = 40 :: (joinB 44 (cs.map chT) ++ [41]) := by unfold chsT; rw [if_neg hcs]; rfl
    rw [e, cutF_app 40 _ _ hd, cutF_one 40 _ (inner_no (by decide) (by decide) (by decide) (by decide) (by decide) (by decide) hc)]
    dsimp only
    rw [hv, if_pos ⟨h0, hba⟩, pnInner_text hc hcs, if_pos hba]
theorem rankF_of {r l : Int} (h : l < 23) : rankF r l = rankS r l := by unfold rankF rankS; rw [if_neg (by omega)]
theorem items_text {x : Itm} (h : ItW x) : itemsF2 (itmT x) = some (itmGs x) := by
  obtain ⟨k, fr, fl, lr, ll, lv, chs⟩ := x
  obtain ⟨h1, h2, h3, h4, h5, h6⟩ := h
  dsimp only at *
  unfold itmT itemsF2 itmGs
  dsimp only
  have hf := sigB_iff.1 h1
  have hl := sigB_iff.1 h2
  rcases h6 with ⟨rfl, rfl, rfl⟩ | ⟨rfl, h7, h8, h9, rfl⟩
  · rw [if_neg (by decide), List.append_assoc, sigF_text h1]
    dsimp only
    obtain ⟨d, u, hd, hdd⟩ := dec_head h3.1 h3.2
    rw [if_neg (by
      rw [hd]
      simp only [List.cons_append, List.head?_cons, Option.some.injEq]
      intro e
      rw [e] at hdd
      exact absurd hdd (by decide)), tail_text h3.1 h3.2 h5 (fun h => absurd rfl h), if_pos rfl, if_pos rfl]
  · have hr := rank_behind ⟨hl.2.2.1, h8⟩ ⟨hf.2.2.1, h7⟩ h9
    have hne : ((lr, ll) : Int × Int) ≠ (fr, fl) := fun e => by
      cases e
      omega
    rw [if_pos rfl, List.append_assoc, List.append_assoc, sigF_text h1]
    dsimp only
    rw [List.cons_append, List.head?_cons, if_pos rfl, List.tail_cons, sigF_text h2]
    dsimp only
    rw [if_pos (by rw [rankF_of h7, rankF_of h8]; refine ⟨?_, hr⟩; unfold rankS; omega), tail_text h3.1 h3.2 h5 (fun _ => rfl), if_neg hne, if_neg (by decide)]
theorem tail_is {a b : Int × Int} {v : Bs} {gs : List Gth} (h : tailF a b v = some gs) (hg : ∀ g ∈ gs, g.leaves < 100 ∧ ∀ c ∈ g.chs, c.pos < 100 ∧ c.many < 100) (hne : gs ≠ []) :
    ∃ n cs, 0 ≤ n ∧ v = dec n ++ chsT cs ∧ (b ≠ a → cs = []) ∧ gs = if b = a then [⟨a.1, a.2, n, cs⟩] else (runS (rankS b.1 b.2 - rankS a.1 a.2).toNat a b).map fun s => ⟨s.1, s.2, n, []⟩ := by
  unfold tailF at h
  have hj := cutF_join 40 v
  split at h
  · rename_i x hc
    rw [hc] at hj
    split at h
    · rename_i hd
      cases h
      have hx : x = dec (decF x) := by
        refine decF_dec_is hd ?_
        by_cases hba : b = a
        · rw [if_pos hba] at hg
          exact (hg ⟨a.1, a.2, decF x, []⟩ (List.mem_singleton.2 rfl)).1
        · rw [if_neg hba, runS_head] at hg
          exact (hg ⟨a.1, a.2, decF x, []⟩ (by simp)).1
      exact ⟨decF x, [], hd, by rw [← hj, ← hx]; simp [joinB, chsT], fun _ => rfl, rfl⟩
    · cases h
  · rename_i x y hc
    rw [hc] at hj
    split at h
    · rename_i hd
      split at h
      · cases h
      · rename_i cs hi
        cases h
        have hg0 := hg ⟨a.1, a.2, decF x, cs⟩ (List.mem_singleton.2 rfl)
        have hx := decF_dec_is hd.1 hg0.1
        refine ⟨decF x, cs, hd.1, ?_, fun h => absurd hd.2 h, by rw [if_pos hd.2]⟩
        rw [← pnInner_is hi hg0.2, ← hx, ← hj]
        rfl
    · cases h
  · cases h
theorem tail_ne {a b : Int × Int} {v : Bs} {gs : List Gth} (h : tailF a b v = some gs) : gs ≠ [] := by
  rintro rfl
  unfold tailF at h
  split at h
  · rename_i x hc
    by_cases hd : 0 ≤ decF x
    · rw [if_pos hd] at h
      have h := Option.some.inj h
      by_cases hba : b = a
      · rw [if_pos hba] at h
        cases h
      · rw [if_neg hba, runS_head] at h
        cases h
    · rw [if_neg hd] at h
      cases h
  · rename_i x y hc
    split at h
    · split at h <;> cases h
    · cases h
  · cases h
theorem chg_ok {cs : List Chg} {n : Int} (hn : n ≤ 12) (h : (chsErr n none 0 cs).2 = 0) : ∀ c ∈ cs, ChW c ∧ c.pos < 100 ∧ c.many < 100 := fun c hc => by
  obtain ⟨h1, h2⟩ := chsErr_zero h c hc
  unfold rangeB at h2
  have hk : c.kind = 1 ∨ c.kind = 2 ∨ c.kind = 3 := by
    unfold kindB at h1
    simp only [Bool.or_eq_true, decide_eq_true_eq] at h1
    omega
  split at h2
  · rename_i h3
    simp only [Bool.and_eq_true, inB_iff] at h2
    exact ⟨⟨hk, by omega, by omega, fun h => absurd h3 h⟩, by omega, by omega⟩
  · rename_i h3
    simp only [Bool.and_eq_true, inB_iff, decide_eq_true_eq] at h2
    exact ⟨⟨hk, by omega, by omega, fun _ => h2.2⟩, by omega, by omega⟩
theorem items_is {s : Bs} {gs : List Gth} (h : itemsF2 s = some gs) (hg : ∀ g ∈ gs, GOk g) : ∃ x, ItW x ∧ s = itmT x ∧ itmGs x = gs := by
  have hgl : ∀ g ∈ gs, g.leaves < 100 ∧ ∀ c ∈ g.chs, c.pos < 100 ∧ c.many < 100 := fun g hm =>
    ⟨by have := (hg g hm).leaves; omega, fun c hc => (chg_ok (by have := (hg g hm).leaves; omega) (hg g hm).chs c hc).2⟩
  unfold itemsF2 at h
  split at h
  · cases h
  · rename_i a t hs
    have e1 := sigF_is hs
    have s1 := (sigF_len hs).2
    obtain ⟨a1, a2⟩ := a
    dsimp only at *
    have b1 := sigB_iff.1 s1
    split at h
    · rename_i hh
      split at h
      · cases h
      · rename_i b v hs2
        have e2 := sigF_is hs2
        have s2 := (sigF_len hs2).2
        obtain ⟨c1, c2⟩ := b
        dsimp only at *
        have b2 := sigB_iff.1 s2
        split at h
        · rename_i hr
          have hl1 : a2 < 23 := by
            have := hr.1
            unfold rankF at this
            split at this <;> omega
          have hl2 : c2 < 23 := by
            have := hr.1
            have := hr.2
            unfold rankF at this
            split at this
            · rename_i h23
              split at this <;> omega
            · split at this <;> omega
          rw [rankF_of hl1, rankF_of hl2] at hr
          have hne : ((c1, c2) : Int × Int) ≠ (a1, a2) := fun e => by
            cases e
            omega
          have hgn := tail_ne h
          obtain ⟨n, cs, h0, hv, hcs, hgs⟩ := tail_is h hgl hgn
          rw [if_neg hne] at hgs
          have hcs := hcs hne
          subst hcs
          have hn : n ≤ 12 := by
            rw [runS_head] at hgs
            have := (hg ⟨a1, a2, n, []⟩ (by rw [hgs]; simp)).leaves
            dsimp only at this
            omega
          refine ⟨⟨1, a1, a2, c1, c2, n, []⟩, ⟨s1, s2, ⟨h0, hn⟩, by simp, (fun c hc => by cases hc), Or.inr ⟨rfl, hl1, hl2, ?_, rfl⟩⟩, ?_, ?_⟩
          · have := hr.2
            unfold rankS at this
            show behindB c1 c2 a1 a2 = true
            unfold behindB
            split
            · exact decide_eq_true (by subst_vars; omega)
            · exact decide_eq_true (by omega)
          · have ht : t = 45 :: t.tail := by
              cases t with
              | nil => cases hh
              | cons x t => rw [List.head?_cons] at hh; cases hh; rfl
            rw [e1, ht, e2, hv]
            unfold itmT
            dsimp only
            rw [if_pos rfl]
            simp
          · rw [hgs]
            unfold itmGs
            dsimp only
            rw [if_neg (by decide)]
        · cases h
    · have hgn := tail_ne h
      obtain ⟨n, cs, h0, hv, -, hgs⟩ := tail_is h hgl hgn
      rw [if_pos rfl] at hgs
      have hgo := hg ⟨a1, a2, n, cs⟩ (by rw [hgs]; simp)
      have hn := hgo.leaves
      dsimp only at hn
      refine ⟨⟨0, a1, a2, a1, a2, n, cs⟩, ⟨s1, s1, ⟨h0, by dsimp only; omega⟩, hgo.few, fun c hc => (chg_ok (by show n ≤ 12; omega) hgo.chs c hc).1, Or.inl ⟨rfl, rfl, rfl⟩⟩, ?_, ?_⟩
      · rw [e1, hv]
        unfold itmT
        dsimp only
        rw [if_neg (by decide)]
        simp
      · rw [hgs]
        unfold itmGs
        dsimp only
        rw [if_pos rfl]

/-- The words of a formula but the last one, as the reference reads them. -/
def wordsF (ws : List Bs) : Option (List Gth) := match allOf itemsF2 ws with
  | none => none
  | some gss => some gss.flatten
/-- What the reference reads of words. -/
def refBookF (ws : List Bs) (l : Bs) : Bk × Int := if l.length < 2 ∨ l.head? ≠ some 36 then (⟨0, []⟩, 6) else match wordsF ws with
  | none => (⟨0, []⟩, 6)
  | some gs => if errF ⟨decF l.tail, gs⟩ = 0 then (⟨decF l.tail, gs⟩, 0) else (⟨0, []⟩, 6)
theorem words_text : ∀ {xs : List Itm}, (∀ x ∈ xs, ItW x) → allOf itemsF2 (xs.map itmT) = some (xs.map itmGs)
  | [], _ => rfl
  | x :: xs, h => by
    have ih := words_text (xs := xs) fun y hy => h y (List.mem_cons_of_mem _ hy)
    rw [List.map_cons, allOf, items_text (h x (by simp))]
    dsimp only
    rw [ih]
    rfl
theorem words_is : ∀ {ws : List Bs} {gss : List (List Gth)}, allOf itemsF2 ws = some gss → (∀ g ∈ gss.flatten, GOk g) → ∃ xs : List Itm, ws = xs.map itmT ∧ gss = xs.map itmGs ∧ ∀ x ∈ xs, ItW x
  | [], gss, h, _ => by
    cases h
    exact ⟨[], rfl, rfl, fun x hx => by cases hx⟩
  | w :: ws, gss, h, hg => by
    obtain ⟨gs, hs, h1, h2, rfl⟩ := allOf_cons h
    rw [List.flatten_cons] at hg
    obtain ⟨x, k1, k2, k3⟩ := items_is h1 fun g hm => hg g (List.mem_append_left _ hm)
    obtain ⟨xs, l1, l2, l3⟩ := words_is h2 fun g hm => hg g (List.mem_append_right _ hm)
    refine ⟨x :: xs, by rw [List.map_cons, ← k2, ← l1], by rw [List.map_cons, k3, ← l2], fun y hy => ?_⟩
    rcases List.mem_cons.1 hy with rfl | hy
    · exact k1
    · exact l3 y hy
theorem joinB_end (c : UInt8) (l : Bs) : ∀ ws : List Bs, joinB c (ws ++ [l]) = (ws.flatMap fun x => x ++ [c]) ++ l
  | [] => by simp [joinB]
  | [x] => by simp [joinB]
  | x :: y :: ws => by
    have ih := joinB_end c l (y :: ws)
    rw [List.cons_append, List.cons_append, joinB, ← List.cons_append, ih]
    simp
/-- **The reference reads as the program does.** -/
theorem refBook_is {s : Bs} {ws : List Bs} {l : Bs} (hs : s.length ≤ 1000) (hw : cutF 32 s = ws ++ [l]) : refBookF ws l = readF s := by
  have hr : readF s = match allF (bookF s) with
    | none => (⟨0, []⟩, 6)
    | some b => if errF b = 0 then (b, 0) else (⟨0, []⟩, 6) := by
    unfold readF
    rw [if_neg (by omega)]
    cases allF (bookF s) <;> rfl
  -- what the program reads, the reference reads
  have k1 : ∀ b, allF (bookF s) = some b → errF b = 0 → refBookF ws l = (b, 0) := by
    intro b h he
    obtain ⟨xs, hx, hg, hi, h0, h1⟩ := bookF_is h
    have hc := cut_items (n := b.signed) h0 (by omega) hi
    rw [← hx, hw] at hc
    obtain ⟨e1, e2⟩ := List.append_inj' hc (by simp)
    cases e2
    unfold refBookF
    rw [if_neg (by
      obtain ⟨d, u, e, -⟩ := dec_head h0 h1
      rw [e]
      simp)]
    have hwd : wordsF ws = some b.gs := by
      unfold wordsF
      rw [e1, words_text hi]
      dsimp only
      rw [hg]
      unfold gsOf
      rw [List.flatMap_def]
    rw [hwd]
    show (if errF ⟨decF (dec b.signed), b.gs⟩ = 0 then ((⟨decF (dec b.signed), b.gs⟩ : Bk), (0 : Int)) else (⟨0, []⟩, 6)) = (b, 0)
    rw [show (⟨decF (dec b.signed), b.gs⟩ : Bk) = b from by rw [decF_dec h0 (by omega)], if_pos he]
  -- and what the reference reads, the program reads
  have k2 : ∀ b, refBookF ws l = (b, 0) → allF (bookF s) = some b ∧ errF b = 0 := by
    intro b h
    unfold refBookF at h
    split at h
    · cases h
    · rename_i hl
      split at h
      · cases h
      · rename_i gs hgs
        split at h
        · rename_i he
          cases h
          refine ⟨?_, he⟩
          have hb := errF_zero he
          have h0 := hb.signed
          have hgo := hb.gs
          dsimp only at h0 hgo
          unfold wordsF at hgs
          split at hgs
          · cases hgs
          · rename_i gss hss
            cases hgs
            obtain ⟨xs, e1, e2, hi⟩ := words_is hss hgo
            have ht := decF_dec_is h0.1 (by omega)
            have hl2 : l = 36 :: l.tail := by
              cases l with
              | nil => exact absurd (Or.inl (by simp)) hl
              | cons x t =>
                have : x = 36 := Classical.byContradiction fun e => hl (Or.inr (by simpa using e))
                rw [this]
                rfl
            have hj := cutF_join 32 s
            rw [hw, joinB_end, e1] at hj
            have hs2 : s = itemsT xs ++ 36 :: dec (decF l.tail) := by
              rw [← hj, ← ht, ← hl2]
              unfold itemsT
              rw [List.flatMap_map]
            have hbk := bookF_text hi h0.1 h0.2
            rw [← hs2] at hbk
            rw [hbk]
            have e3 : gsOf xs = gss.flatten := by rw [e2]; unfold gsOf; rw [List.flatMap_def]
            rw [e3]
            rfl
        · cases h
  have k3 : refBookF ws l = (⟨0, []⟩, 6) ∨ ∃ b, refBookF ws l = (b, 0) := by
    unfold refBookF
    split
    · exact Or.inl rfl
    · split
      · exact Or.inl rfl
      · split
        · exact Or.inr ⟨_, rfl⟩
        · exact Or.inl rfl
  rw [hr]
  rcases k3 with k3 | ⟨b, k3⟩
  · cases hb : allF (bookF s) with
    | none => exact k3
    | some b =>
      dsimp only
      by_cases he : errF b = 0
      · rw [if_pos he]; exact k1 b hb he
      · rw [if_neg he]; exact k3
  · obtain ⟨h1, h2⟩ := k2 b k3
    rw [h1]
    dsimp only
    rw [if_pos h2]
    exact k3
end Go.Proofs.YtlfglbnbenaghaaGreatDoor

/- The book of the examples, as plain Lean and in memory. -/
namespace Go.Proofs.YtlfglbnbenaghaaGreatDoor
set_option linter.unusedSimpArgs false
set_option linter.unusedVariables false
open Go Go.RowKit Go.Sort Go.BigFrame

/-- The changes of the examples' gathering D. -/
def exChs (k : Nat) : List Chg := [⟨1, 3, 0⟩, ⟨2, 5, 0⟩, ⟨3, 8, 1⟩].take (3 - k)
/-- The book of the examples, and the same without the last k changes. -/
def exBook (k : Nat) : Bk := ⟨4, [⟨1, 23, 2, []⟩, ⟨1, 0, 8, []⟩, ⟨1, 1, 8, []⟩, ⟨1, 2, 8, []⟩, ⟨1, 3, 8, exChs k⟩, ⟨1, 24, 1, []⟩]⟩

/-- The cells of the gatherings. -/
def exCells (sv : Value) : Array Value :=
  #[.int .i64 1, .int .i64 23, .int .i64 2, .slice none 0 0, .int .i64 1, .int .i64 0, .int .i64 8, .slice none 0 0, .int .i64 1, .int .i64 1, .int .i64 8, .slice none 0 0,
    .int .i64 1, .int .i64 2, .int .i64 8, .slice none 0 0, .int .i64 1, .int .i64 3, .int .i64 8, sv, .int .i64 1, .int .i64 24, .int .i64 1, .slice none 0 0]
def exChCells : Array Value := #[.int .i64 1, .int .i64 3, .int .i64 0, .int .i64 2, .int .i64 5, .int .i64 0, .int .i64 3, .int .i64 8, .int .i64 1]

theorem exChs_nil {B : Nat} {w : World} : ChsAt B w (.slice none 0 0) [] := ⟨none, 0, rfl, fun h => absurd rfl h⟩
theorem exChs_at {w : World} {C k : Nat} (hk : k ≤ 1) {e : TypeId} (h : w.heap[C]? = some (.cells exChCells e)) (hC : C < w.heap.size) :
    ChsAt w.heap.size w (.slice (some ⟨C, 0, none⟩) (3 - k) 3) (exChs k) := by
  refine ⟨some ⟨C, 0, none⟩, 3, by obtain rfl | rfl : k = 0 ∨ k = 1 := by omega
                                   all_goals rfl, fun _ => ⟨C, 0, rfl, hC, fun i c hc => ?_⟩⟩
  have hh : ∀ j v, exChCells[j]? = some v → w.cell? ⟨C, j, none⟩ = some v := fun j v hv => by simp [World.cell?, h, hv]
  obtain rfl | rfl : k = 0 ∨ k = 1 := by omega
  · rcases i with _ | _ | _ | i
    · cases hc; exact ⟨hh _ _ rfl, hh _ _ rfl, hh _ _ rfl⟩
    · cases hc; exact ⟨hh _ _ rfl, hh _ _ rfl, hh _ _ rfl⟩
    · cases hc; exact ⟨hh _ _ rfl, hh _ _ rfl, hh _ _ rfl⟩
    · simp [exChs] at hc
  · rcases i with _ | _ | i
    · cases hc; exact ⟨hh _ _ rfl, hh _ _ rfl, hh _ _ rfl⟩
    · cases hc; exact ⟨hh _ _ rfl, hh _ _ rfl, hh _ _ rfl⟩
    · simp [exChs] at hc

theorem exBook_at {w : World} {C G k : Nat} (hk : k ≤ 1) {e f : TypeId} (h : w.heap[C]? = some (.cells exChCells e)) (hC : C < w.heap.size)
    (hg : w.heap[G]? = some (.cells (exCells (.slice (some ⟨C, 0, none⟩) (3 - k) 3)) f)) (hG : G < w.heap.size) :
    BookAt w.heap.size w (.agg #[.int .i64 4, .slice (some ⟨G, 0, none⟩) 6 6]) (exBook k) := by
  refine ⟨_, rfl, some ⟨G, 0, none⟩, 6, rfl, fun _ => ⟨G, 0, rfl, hG, fun i g hi => ?_⟩⟩
  have hh : ∀ j v, (exCells (.slice (some ⟨C, 0, none⟩) (3 - k) 3))[j]? = some v → w.cell? ⟨G, j, none⟩ = some v := fun j v hv => by simp [World.cell?, hg, hv]
  rcases i with _ | _ | _ | _ | _ | _ | i
  · cases hi; exact ⟨_, exChs_nil, hh _ _ rfl, hh _ _ rfl, hh _ _ rfl, hh _ _ rfl⟩
  · cases hi; exact ⟨_, exChs_nil, hh _ _ rfl, hh _ _ rfl, hh _ _ rfl, hh _ _ rfl⟩
  · cases hi; exact ⟨_, exChs_nil, hh _ _ rfl, hh _ _ rfl, hh _ _ rfl, hh _ _ rfl⟩
  · cases hi; exact ⟨_, exChs_nil, hh _ _ rfl, hh _ _ rfl, hh _ _ rfl, hh _ _ rfl⟩
  · cases hi; exact ⟨_, exChs_at hk h hC, hh _ _ rfl, hh _ _ rfl, hh _ _ rfl, hh _ _ rfl⟩
  · cases hi; exact ⟨_, exChs_nil, hh _ _ rfl, hh _ _ rfl, hh _ _ rfl, hh _ _ rfl⟩
  · simp [exBook] at hi

end Go.Proofs.YtlfglbnbenaghaaGreatDoor

/- Contract of Read. -/
namespace Go.Proofs.YtlfglbnbenaghaaGreatDoor
set_option linter.unusedSimpArgs false
set_option linter.unusedVariables false
open Go Go.RowKit Go.Sort Go.BigFrame

/-- What Read hands back. -/
def ReadR (r : Bk × Int) (w : World) (e : Ending) (w' : World) : Prop :=
  (∃ v, e = .returned (.tuple #[v, .int .i64 r.2]) ∧ BookIn w.heap.size w' v r.1) ∧ Below w.heap.size w w'

theorem BookIn.none (lo : Nat) (W : World) : BookIn lo W (.agg #[.int .i64 0, .slice none 0 0]) ⟨0, []⟩ := ⟨_, rfl, [], rfl, World.ownsRow_nil _ _ _ _, fun z hz => (by cases hz)⟩
theorem checkR_eq' (b : Bk) : checkR b = .tuple #[.int .i64 (checkF b).1, .int .i64 (checkF b).2.1, .int .i64 (errF b)] := rfl
theorem BookIn.only {lo : Nat} {W W' : World} {v : Value} {b : Bk} {X : Nat → Prop} (h : BookIn lo W v b) (ho : OnlyIn X W W') (hX : ∀ k, X k → k < lo) : BookIn lo W' v b := by
  obtain ⟨sv, he, hg⟩ := h
  exact ⟨sv, he, hg.only ho hX⟩
theorem BookIn.mono {lo lo' : Nat} {W : World} {v : Value} {b : Bk} (h : BookIn lo W v b) (hl : lo' ≤ lo) : BookIn lo' W v b := by
  obtain ⟨sv, he, hg⟩ := h
  exact ⟨sv, he, hg.mono hl⟩
theorem BookIn.shape {lo : Nat} {W : World} {v : Value} {b : Bk} (h : BookIn lo W v b) : ∃ a n c, v = .agg #[.int .i64 b.signed, .slice a n c] := by
  obtain ⟨sv, rfl, zs, -, hrow, -⟩ := h
  rcases hrow.2 with ⟨rfl, -⟩ | ⟨g', cap, cur, rfl, -⟩
  · exact ⟨_, _, _, rfl⟩
  · exact ⟨_, _, _, rfl⟩

set_option maxRecDepth 100000 in
set_option maxHeartbeats 4000000 in
theorem Read_any (s : Bs) (w : World) (hs : s.length ≤ 9223372036854775807) :
    Calls Tryz.prog 9 #[S s] w (ReadR (readF s) w) := by
  by_cases h1 : 1000 < s.length
  · have hF : Hid (readF s = (⟨0, []⟩, 3)) := by show _ = _; simp [readF, h1]
    have hz : (1000 : Int) < (s.length : Int) := by omega
    go_enter Tryz.func9, Tryz.ntmps9
    go_wp2_with fail
    refine bodyPost_ret (v := .tuple #[.agg #[.int .i64 0, .slice none 0 0], .int .i64 3]) (by simp [results, Tryz.results9, go_sem]) rfl ?_
    rw [hF.out]
    exact ⟨⟨_, rfl, BookIn.none _ _⟩, (by repeat (first | exact Below.refl _ _ | assumption | (refine Below.alloc ?_ ?_ _; rotate_left; · (first | omega | (simp; done) | (simp; omega) | fail)) | (refine Below.setCell ?_ ?_ _; rotate_left; · (first | omega | (simp; done) | (simp; omega) | fail)) | refine Below.drew ?_ | fail))⟩
  · have hz : ¬ (1000 : Int) < (s.length : Int) := by omega
    have hsl : s.length ≤ 1000 := by omega
    obtain ⟨w1, hw1⟩ : ∃ w1, w1 = w.alloc (.cells #[.int .i64 0, .slice none 0 0] 24) := ⟨_, rfl⟩
    have p1 : w1.heap[w.heap.size]? = some (.cells #[.int .i64 0, .slice none 0 0] 24) := by rw [hw1]; exact (by repeat (first | exact heap_alloc_at _ _ _ (by (first | omega | (simp; done) | (simp; omega) | fail)) | (refine (heap_alloc_past _ _ _ ?_).trans ?_; · (first | omega | (simp; done) | (simp; omega) | fail)) | fail))
    have hb1 : Below w.heap.size w w1 := by rw [hw1]; exact (by repeat (first | exact Below.refl _ _ | assumption | (refine Below.alloc ?_ ?_ _; rotate_left; · (first | omega | (simp; done) | (simp; omega) | fail)) | (refine Below.setCell ?_ ?_ _; rotate_left; · (first | omega | (simp; done) | (simp; omega) | fail)) | refine Below.drew ?_ | fail))
    have HP := Lib.hid p1
    have HB := Lib.hid hb1
    have hz1 := blk_lt p1
    have HR : Hid (readF s = match allF (bookF s) with | none => (⟨0, []⟩, 6) | some b => if errF b = 0 then (b, 0) else (⟨0, []⟩, 6)) := by show _ = _; unfold readF; rw [if_neg h1]; cases allF (bookF s) <;> rfl
    go_enter Tryz.func9, Tryz.ntmps9
    go_wp2_with fail
    rw [← hw1]
    clear hw1 p1 hb1 h1
    refine (parseB_any s _ hsl).mono ?_
    intro e w2 hp
    cases hl : allF (bookF s) with
    | none =>
      rw [hl] at hp
      obtain ⟨rfl, hb⟩ := hp
      have hF : Hid (readF s = (⟨0, []⟩, 6)) := by show _ = _; rw [HR.out, hl]
      have HP2 := Lib.hid (blk_later hb HP.out)
      have HB2 := Lib.hid (HB.out.trans (hb.mono (by omega)))
      have c0 := blk_cell HP2.out 0; have c1 := blk_cell HP2.out 1
      have f0 := blk_free HP2.out 0; have f1 := blk_free HP2.out 1
      have hz2 := blk_lt HP2.out
      clear hb hl
      go_wp2_with fail
      refine bodyPost_ret (v := .tuple #[.agg #[.int .i64 0, .slice none 0 0], .int .i64 6]) (by simp [results, Tryz.results9, go_sem, c0, c1, hz2, World.cell?_alloc_past]) rfl ?_
      rw [hF.out]
      exact ⟨⟨_, rfl, BookIn.none _ _⟩, (by repeat (first | (refine Below.setCell ?_ ?_ _; rotate_left; · (first | omega | (simp; done) | (simp; omega) | fail)) | (refine Below.alloc ?_ ?_ _; rotate_left; · (first | omega | (simp; done) | (simp; omega) | fail)) | refine Below.drew ?_ | exact HB2.out | fail))⟩
    | some b =>
      rw [hl] at hp
      obtain ⟨⟨v, rfl, hv⟩, hb⟩ := hp
      have HV := Lib.hid hv
      obtain ⟨a, n, c, rfl⟩ := hv.shape
      have HR2 : Hid (readF s = if errF b = 0 then (b, 0) else (⟨0, []⟩, 6)) := by show _ = _; rw [HR.out, hl]
      have HP2 := Lib.hid (blk_later hb HP.out)
      have HB2 := Lib.hid (HB.out.trans (hb.mono (by omega)))
      have hz2 := blk_lt HP2.out
      clear hb hl hv
      go_wp2_with fail
      have HA := Lib.hid (HV.out.only (OnlyIn.alloc (fun _ => False) w2 (.cells #[.int .i64 b.signed, .slice a n c] 24)) (fun _ h => h.elim)).at_
      refine (Check_any b _ _ HA.out).mono ?_
      rintro e w3 ⟨rfl, hb⟩
      rw [checkR_eq']
      have HB3 := Lib.hid (Below.trans (show Below w.heap.size w (w2.alloc (.cells #[.int .i64 b.signed, .slice a n c] 24)) from (by repeat (first | (refine Below.setCell ?_ ?_ _; rotate_left; · (first | omega | (simp; done) | (simp; omega) | fail)) | (refine Below.alloc ?_ ?_ _; rotate_left; · (first | omega | (simp; done) | (simp; omega) | fail)) | refine Below.drew ?_ | exact HB2.out | fail))) (hb.mono (by simp; omega)))
      have HP3 := Lib.hid (blk_later hb (show (w2.alloc (.cells #[.int .i64 b.signed, .slice a n c] 24)).heap[w.heap.size]? = _ from (by repeat (first | (refine (heap_setCell_past _ _ _ _ ?_).trans ?_; · (first | omega | (simp; done) | (simp; omega) | fail)) | (refine (heap_alloc_past _ _ _ ?_).trans ?_; · (first | omega | (simp; done) | (simp; omega) | fail)) | exact HP2.out | fail))))
      have hq := blk_later hb (show (w2.alloc (.cells #[.int .i64 b.signed, .slice a n c] 24)).heap[w2.heap.size]? = some (.cells #[.int .i64 b.signed, .slice a n c] 24) from (by repeat (first | exact heap_alloc_at _ _ _ (by (first | omega | (simp; done) | (simp; omega) | fail)) | (refine (heap_alloc_past _ _ _ ?_).trans ?_; · (first | omega | (simp; done) | (simp; omega) | fail)) | fail)))
      have HV3 := Lib.hid ((HV.out.only (OnlyIn.alloc (fun _ => False) w2 (.cells #[.int .i64 b.signed, .slice a n c] 24)) (fun _ h => h.elim)).only (OnlyIn.of_below (X := fun _ => False) hb) (fun _ h => h.elim))
      have c0 := blk_cell HP3.out 0; have c1 := blk_cell HP3.out 1
      have f0 := blk_free HP3.out 0; have f1 := blk_free HP3.out 1
      have q0 := blk_cell hq 0; have q1 := blk_cell hq 1
      have hz3 := blk_lt HP3.out
      have HQ := Lib.hid hq
      clear hb hq
      by_cases he : errF b = 0
      · have hF : Hid (readF s = (b, 0)) := by show _ = _; rw [HR2.out, if_pos he]
        go_wp2_with fail
        refine bodyPost_ret (v := .tuple #[.agg #[.int .i64 b.signed, .slice a n c], .int .i64 0]) (by simp [results, Tryz.results9, go_sem, c0, c1]) rfl ?_
        rw [hF.out]
        refine ⟨⟨_, rfl, ?_⟩, (by repeat (first | (refine Below.setCell ?_ ?_ _; rotate_left; · (first | omega | (simp; done) | (simp; omega) | fail)) | (refine Below.alloc ?_ ?_ _; rotate_left; · (first | omega | (simp; done) | (simp; omega) | fail)) | refine Below.drew ?_ | exact HB3.out | fail))⟩
        exact ((HV3.out.only ((OnlyIn.setCell (X := fun k => k = w.heap.size) w3 ⟨w.heap.size, 0, none⟩ (.int .i64 b.signed) rfl).trans (OnlyIn.setCell _ ⟨w.heap.size, 1, none⟩ (.slice a n c) rfl)) (fun k h => by omega)).mono (by omega))
      · have hne : (errF b != 0) = true := by simp [he]
        have hF : Hid (readF s = (⟨0, []⟩, 6)) := by show _ = _; rw [HR2.out, if_neg he]
        clear he
        go_wp2_with fail
        refine bodyPost_ret (v := .tuple #[.agg #[.int .i64 0, .slice none 0 0], .int .i64 6]) (by simp [results, Tryz.results9, go_sem, c0, c1]) rfl ?_
        rw [hF.out]
        exact ⟨⟨_, rfl, BookIn.none _ _⟩, (by repeat (first | (refine Below.setCell ?_ ?_ _; rotate_left; · (first | omega | (simp; done) | (simp; omega) | fail)) | (refine Below.alloc ?_ ?_ _; rotate_left; · (first | omega | (simp; done) | (simp; omega) | fail)) | refine Below.drew ?_ | exact HB3.out | fail))⟩

end Go.Proofs.YtlfglbnbenaghaaGreatDoor

/- Contract of Name. -/
namespace Go.Proofs.YtlfglbnbenaghaaGreatDoor
set_option linter.unusedSimpArgs false
set_option linter.unusedVariables false
open Go Go.RowKit Go.Sort Go.BigFrame Go.Lib

/-- Whether a byte may stand in a name, first or behind. -/
def smallB (c : Nat) : Bool := decide (97 ≤ c) && decide (c ≤ 122)
def innerB (c : Nat) : Bool := (decide (48 ≤ c) && decide (c ≤ 57)) || decide (c = 46)
def nameL : Nat → Bs → Bool
  | _, [] => true
  | i, c :: cs => if smallB c.toNat || (decide (i ≠ 0) && innerB c.toNat) then nameL (i + 1) cs else false
def nameB (s : Bs) : Bool := decide (1 ≤ s.length) && decide (s.length ≤ 16) && nameL 0 s

/-- At the rune with a number. -/
structure AtRune (w wr : World) (s : Bs) (k : Nat) : Prop where
  it : wr.heap[w.heap.size + 1]? = some (.stringIter ⟨s.toArray⟩ k)
  below : Below w.heap.size w wr
  rest : nameL 0 s = nameL k (s.drop k)
theorem rune_at {s : Bs} {k : Nat} {c : UInt8} (h : s[k]? = some c) : ∃ r d : Nat, Utf8.decode ⟨s.toArray⟩ k = (r, d) ∧ ((r = c.toNat ∧ d = 1 ∧ r < 128) ∨ (128 ≤ r ∧ 128 ≤ c.toNat)) := by
  obtain ⟨hk, hc⟩ := List.getElem?_eq_some_iff.1 h
  have hk' : k < (⟨s.toArray⟩ : ByteArray).size := by rw [size_bytes]; exact hk
  have hc' : (⟨s.toArray⟩ : ByteArray)[k] = c := by rw [← hc]; rfl
  by_cases ha : c.toNat < 128
  · refine ⟨_, _, decode_ascii _ k hk' (by rw [hc']; exact ha), Or.inl ⟨by rw [hc'], rfl, by rw [hc']; exact ha⟩⟩
  · exact ⟨_, _, rfl, Or.inr ⟨(decode_high _ k hk' (by rw [hc']; omega)).1, by omega⟩⟩

set_option maxHeartbeats 2000000 in
theorem Name_any (s : Bs) (w : World) (hs : s.length ≤ 9223372036854775807) :
    Calls Tryz.prog 39 #[S s] w fun e w' => e = .returned (.bool (nameB s)) ∧ Below w.heap.size w w' := by
  have hzs : (⟨s.toArray⟩ : ByteArray).size = s.length := size_bytes s
  have HZ := Lib.hid hzs
  clear hzs
  cases hl : inB 1 16 s.length with
  | false =>
    have hF : Hid (nameB s = false) := by
      show _ = _
      unfold nameB
      simp only [inB, Bool.and_eq_false_iff, decide_eq_false_iff_not] at hl
      have : (decide (1 ≤ s.length) && decide (s.length ≤ 16)) = false := by
        rcases hl with h | h
        · rw [decide_eq_false (by omega)]; rfl
        · rw [decide_eq_false (p := s.length ≤ 16) (by omega), Bool.and_false]
      rw [this]; rfl
    go_enter Tryz.func39, Tryz.ntmps39
    go_wp2_with fail
    refine (within_one _ _ (s.length : Int) _ _ (by simp [World.cell?_alloc_at])).mono ?_
    rintro e w1 ⟨rfl, rfl⟩
    rw [hl]
    go_wp2_with fail
    go_ret
    exact ⟨by rw [hF.out]; rfl, (by repeat (first | exact Below.refl _ _ | assumption | (refine Below.alloc ?_ ?_ _; rotate_left; · (first | omega | (simp; done) | (simp; omega) | fail)) | (refine Below.setCell ?_ ?_ _; rotate_left; · (first | omega | (simp; done) | (simp; omega) | fail)) | refine Below.drew ?_ | fail))⟩
  | true =>
    have hb : 1 ≤ s.length ∧ s.length ≤ 16 := by
      simp only [inB, Bool.and_eq_true, decide_eq_true_eq] at hl; omega
    have hF0 : Hid (nameB s = nameL 0 s) := by
      show _ = _
      unfold nameB
      rw [decide_eq_true hb.1, decide_eq_true hb.2]; rfl
    obtain ⟨n, hn⟩ : ∃ n, n = s.length := ⟨_, rfl⟩
    have HNN := Lib.hid hn
    have hn16 : n ≤ 16 := by omega
    rw [← hn] at hl
    go_enter Tryz.func39, Tryz.ntmps39
    go_wp2_with fail
    refine (within_one _ _ (s.length : Int) _ _ (by simp [World.cell?_alloc_at])).mono ?_
    rintro e w1 ⟨rfl, rfl⟩
    rw [← hn, hl]
    have H0 : Hid (AtRune w ((w.alloc (.cells #[.int .i64 n] 3)).iter ⟨s.toArray⟩ 0) s 0) :=
      ⟨by have := World.iter_heap (w.alloc (.cells #[.int .i64 n] 3)) ⟨s.toArray⟩ 0; simpa using this, ((Below.refl _ _).alloc (Nat.le_refl _) _).alloc (by simp) _, rfl⟩
    clear hn hl hb hs
    go_wp2_with fail
    go_loopw [3] (fun v wr => ∃ k : Nat, k ≤ n ∧ Hid (AtRune w wr s k)) (fun _ wr => n - wr.iterPos (w.heap.size + 1))
    case atStart => exact ⟨0, by omega, H0⟩
    case round =>
      clear H0
      obtain ⟨k, hk, hA⟩ := hrel
      have HIT := Lib.hid hA.out.it
      by_cases hlt : k < n
      · obtain ⟨c, hc⟩ : ∃ c, s[k]? = some c := ⟨_, List.getElem?_eq_getElem (by have := HNN.out; omega)⟩
        obtain ⟨r, d, hdec, hrd⟩ := rune_at hc
        have hstep : nameL 0 s = if smallB c.toNat || (decide (k ≠ 0) && innerB c.toNat) then nameL (k + 1) (s.drop (k + 1)) else false := by
          rw [hA.out.rest, List.drop_eq_getElem?_toList_append, hc]
          rfl
        have hnx := fun ty => run_next_any_at (P := Tryz.prog) wr (w.heap.size + 1) ⟨s.toArray⟩ k ty hA.out.it (by rw [HZ.out]; have := HNN.out; omega)
        rw [hdec] at hnx
        dsimp only at hnx
        obtain ⟨wn, hwn⟩ : ∃ wn, wn = wr.iterAt (w.heap.size + 1) ⟨s.toArray⟩ (k + d) := ⟨_, rfl⟩
        rw [← hwn] at hnx
        have HBN : Hid (Below w.heap.size w wn) := by rw [hwn]; exact below_iterAt hA.out.below (by omega) _ _
        have hsm : smallB c.toNat = smallB r := by
          rcases hrd with ⟨h, -, -⟩ | ⟨h1, h2⟩
          · rw [h]
          · unfold smallB; rw [decide_eq_false (p := c.toNat ≤ 122) (by omega), decide_eq_false (p := r ≤ 122) (by omega)]; simp
        have hin : innerB c.toNat = innerB r := by
          rcases hrd with ⟨h, -, -⟩ | ⟨h1, h2⟩
          · rw [h]
          · unfold innerB; rw [decide_eq_false (p := c.toNat ≤ 57) (by omega), decide_eq_false (p := r ≤ 57) (by omega), decide_eq_false (p := c.toNat = 46) (by omega), decide_eq_false (p := r = 46) (by omega)]; simp
        rw [hsm, hin] at hstep
        have HST := Lib.hid hstep
        have HNX : (r < 128) → Hid (nameL 0 s = nameL (k + 1) (s.drop (k + 1)) → AtRune w wn s (k + 1)) := fun hr => by
          intro hrest
          have hd1 : d = 1 := by rcases hrd with ⟨-, h, -⟩ | ⟨h, -⟩ <;> omega
          subst hd1
          exact ⟨by rw [hwn]; exact iterAt_heap _ _ _ _ _ hA.out.it, HBN.out, hrest⟩
        clear hwn hstep hsm hin hc hdec hrd hA
        by_cases hk0 : k = 0
        · subst hk0
          have hcs : (97 ≤ r ∧ r ≤ 122) ∨ r < 97 ∨ 122 < r := by omega
          rcases hcs with ⟨h1, h2⟩ | h1 | h1
          · have HN : Hid (AtRune w wn s (0 + 1)) := (HNX (by omega)).out (by rw [HST.out]; simp [smallB, h1, h2])
            clear HNX
            have i1 : (97 : Int) ≤ (r : Int) := by omega
            have i2 : (r : Int) ≤ 122 := by omega
            go_wp2_with fail
            all_goals
              go_roundw
              case rel => exact ⟨0 + 1, by omega, HN.out⟩
              case measure => rw [iterPos_of HIT.out, iterPos_of HN.out.it]; omega
          · have HF : Hid (nameB s = false) := by show _ = _; rw [hF0.out, HST.out]; simp [smallB]; omega
            clear HNX
            have i1 : ¬ (97 : Int) ≤ (r : Int) := by omega
            go_wp2_with fail
            all_goals
              go_ret
              exact ⟨by rw [HF.out]; rfl, HBN.out⟩
          · have HF : Hid (nameB s = false) := by show _ = _; rw [hF0.out, HST.out]; simp [smallB]; omega
            clear HNX
            have i1 : (97 : Int) ≤ (r : Int) := by omega
            have i2 : ¬ (r : Int) ≤ 122 := by omega
            go_wp2_with fail
            all_goals
              go_ret
              exact ⟨by rw [HF.out]; rfl, HBN.out⟩
        · have hkb : ((k : Int) == 0) = false := by simp [hk0]
          have hcs : (97 ≤ r ∧ r ≤ 122) ∨ (48 ≤ r ∧ r ≤ 57) ∨ r = 46 ∨ (r < 48 ∧ r ≠ 46) ∨ (57 < r ∧ r < 97) ∨ 122 < r := by omega
          rcases hcs with ⟨h1, h2⟩ | ⟨h1, h2⟩ | h1 | ⟨h1, h2⟩ | ⟨h1, h2⟩ | h1
          · have HN : Hid (AtRune w wn s (k + 1)) := (HNX (by omega)).out (by rw [HST.out]; simp [smallB, h1, h2])
            clear HNX hk0
            have i1 : (97 : Int) ≤ (r : Int) := by omega
            have i2 : (r : Int) ≤ 122 := by omega
            go_wp2_with fail
            go_roundw
            case rel => exact ⟨k + 1, by omega, HN.out⟩
            case measure => rw [iterPos_of HIT.out, iterPos_of HN.out.it]; omega
          · have HN : Hid (AtRune w wn s (k + 1)) := (HNX (by omega)).out (by rw [HST.out]; simp [innerB, h1, h2, hk0])
            clear HNX hk0
            have i0 : ¬ (97 : Int) ≤ (r : Int) := by omega
            have i1 : (48 : Int) ≤ (r : Int) := by omega
            have i2 : (r : Int) ≤ 57 := by omega
            go_wp2_with fail
            go_roundw
            case rel => exact ⟨k + 1, by omega, HN.out⟩
            case measure => rw [iterPos_of HIT.out, iterPos_of HN.out.it]; omega
          · subst h1
            have HN : Hid (AtRune w wn s (k + 1)) := (HNX (by omega)).out (by rw [HST.out]; simp [innerB, hk0])
            clear HNX hk0
            go_wp2_with fail
            go_roundw
            case rel => exact ⟨k + 1, by omega, HN.out⟩
            case measure => rw [iterPos_of HIT.out, iterPos_of HN.out.it]; omega
          · have HF : Hid (nameB s = false) := by
              show _ = _; rw [hF0.out, HST.out, if_neg]
              simp [smallB, innerB]; omega
            clear HNX hk0
            have i0 : ¬ (97 : Int) ≤ (r : Int) := by omega
            have i1 : ¬ (48 : Int) ≤ (r : Int) := by omega
            have i2 : ((r : Int) == 46) = false := by simp; omega
            go_wp2_with fail
            go_ret
            exact ⟨by rw [HF.out]; rfl, HBN.out⟩
          · have HF : Hid (nameB s = false) := by
              show _ = _; rw [hF0.out, HST.out, if_neg]
              simp [smallB, innerB]; omega
            clear HNX hk0
            have i0 : ¬ (97 : Int) ≤ (r : Int) := by omega
            have i1 : (48 : Int) ≤ (r : Int) := by omega
            have i3 : ¬ (r : Int) ≤ 57 := by omega
            have i2 : ((r : Int) == 46) = false := by simp; omega
            go_wp2_with fail
            go_ret
            exact ⟨by rw [HF.out]; rfl, HBN.out⟩
          · have HF : Hid (nameB s = false) := by
              show _ = _; rw [hF0.out, HST.out, if_neg]
              simp [smallB, innerB]; omega
            clear HNX hk0
            have i0 : (97 : Int) ≤ (r : Int) := by omega
            have i4 : ¬ (r : Int) ≤ 122 := by omega
            have i1 : (48 : Int) ≤ (r : Int) := by omega
            have i3 : ¬ (r : Int) ≤ 57 := by omega
            have i2 : ((r : Int) == 46) = false := by simp; omega
            go_wp2_with fail
            go_ret
            exact ⟨by rw [HF.out]; rfl, HBN.out⟩
      · obtain rfl : k = n := by omega
        have hnx := fun ty => run_next_end_at (P := Tryz.prog) wr (w.heap.size + 1) ⟨s.toArray⟩ k ty hA.out.it (by rw [HZ.out]; have := HNN.out; omega)
        have HF : Hid (nameB s = true) := by
          show _ = _; rw [hF0.out, hA.out.rest, HNN.out, List.drop_length]; rfl
        go_wp2_with fail
        go_ret
        exact ⟨by rw [HF.out]; rfl, hA.out.below⟩

end Go.Proofs.YtlfglbnbenaghaaGreatDoor

/- Contracts of formula and Write. -/
namespace Go.Proofs.YtlfglbnbenaghaaGreatDoor
set_option linter.unusedSimpArgs false
set_option linter.unusedVariables false
open Go Go.RowKit Go.Sort Go.BigFrame

theorem itmT_len {x : Itm} (h : ItOk x) : (itmT x).length ≤ 39 := by
  have h1 := sigT_len x.fr x.fl
  have h2 := sigT_len x.lr x.ll
  have h3 := dec_len x.leaves
  have h4 := chsT_len h.few
  unfold itmT
  split <;> simp only [List.length_append, List.length_cons] <;> omega
/-- The text of some items, one behind the other. -/
def itmsT (xs : List Itm) : Bs := xs.flatMap fun x => itmT x ++ [32]
theorem itmsT_len {xs : List Itm} (h : ∀ x ∈ xs, ItOk x) : (itmsT xs).length ≤ xs.length * 40 := by
  unfold itmsT
  refine flatMap_len fun x hx => ?_
  have := itmT_len (h x hx)
  simp only [List.length_append, List.length_singleton]
  omega
theorem itmsT_take {xs : List Itm} {k : Nat} {x : Itm} (h : xs[k]? = some x) : itmsT (xs.take (k + 1)) = itmsT (xs.take k) ++ (itmT x ++ [32]) := by
  unfold itmsT
  rw [(take_split h).2]
  simp

set_option maxRecDepth 100000 in
set_option maxHeartbeats 4000000 in
theorem formula_any (sg : Int) (ys : List (Itm × Value)) (v : Value) (w : World) (hs : 0 ≤ sg ∧ sg < 100) (hv : ItsAt w v ys) (hc : ∀ y ∈ ys, ChsAt w.heap.size w y.2 y.1.chs) (ho : ∀ y ∈ ys, ItOk y.1) (hn : ys.length ≤ 100) :
    Calls Tryz.prog 23 #[.int .i64 sg, v] w fun e w' => e = .returned (S (formulaT sg (ys.map (·.1)))) ∧ Below w.heap.size w w' := by
  obtain ⟨a, cap, rfl, hcell⟩ := hv
  obtain ⟨n, hnn⟩ : ∃ n, n = ys.length := ⟨_, rfl⟩
  have HCE := Lib.hid hcell
  have HCH := Lib.hid hc
  have HO := Lib.hid ho
  have HN := Lib.hid hnn
  have hn' : n ≤ 100 := by omega
  rw [← hnn]
  have zsp : (⟨#[32]⟩ : ByteArray).size ≤ 1 := by decide
  have zdo : (⟨#[36]⟩ : ByteArray).size ≤ 1 := by decide
  have zsg : (⟨(dec sg).toArray⟩ : ByteArray).size ≤ 2 := by rw [size_bytes]; exact dec_len sg
  clear hcell hc ho hnn hn
  go_enter Tryz.func23, Tryz.ntmps23
  go_wp2_with fail
  go_loopw [5, 10] (fun t i wr => ∃ (k : Nat) (tx : Bs), k ≤ n ∧ i = .int .i64 k ∧ t = S tx ∧ Hid (tx = itmsT ((ys.take k).map (·.1))) ∧ Hid (Below w.heap.size w wr)) (fun _ i _ => n - (intOf i).toNat)
  case atStart => exact ⟨0, [], by omega, rfl, rfl, rfl, Below.refl _ _⟩
  case round =>
    obtain ⟨k, tx, hk, rfl, rfl, HT, HB⟩ := hrel
    have htl : tx.length ≤ 4000 := by
      rw [HT.out]
      have := itmsT_len (xs := (ys.take k).map (·.1)) fun x hx => by
        obtain ⟨y, hy, rfl⟩ := List.mem_map.1 hx
        exact HO.out y (List.mem_of_mem_take hy)
      simp only [List.length_map, List.length_take] at this
      omega
    have ztx : (⟨tx.toArray⟩ : ByteArray).size ≤ 4000 := by rw [size_bytes]; exact htl
    have hz := HB.out.size
    by_cases hlt : k < n
    · obtain ⟨y, hy⟩ : ∃ y, ys[k]? = some y := ⟨_, List.getElem?_eq_getElem (by have := HN.out; omega)⟩
      have hym := List.mem_of_getElem? hy
      have hyo := HO.out y hym
      have hyc := HCH.out y hym
      obtain ⟨b, rfl, hbw, hcl⟩ := HCE.out (fun e => by rw [e] at hy; cases hy)
      obtain ⟨q0, q1, q2, q3, q4, q5, q6⟩ := hcl k y hy
      have hst : Hid (itmsT ((ys.take (k + 1)).map (·.1)) = tx ++ (itmT y.1 ++ [32])) := by
        show _ = _
        rw [HT.out, List.map_take, List.map_take]
        exact itmsT_take (by rw [List.getElem?_map, hy]; rfl)
      have hcl' : ∀ i v, w.cell? ⟨b, i, none⟩ = some v → wr.cell? ⟨b, i, none⟩ = some v := fun i v h => (HB.out.cell (p := ⟨b, i, none⟩) hbw).trans h
      have q0 := hcl' _ _ q0
      have q1 := hcl' _ _ q1
      have q2 := hcl' _ _ q2
      have q3 := hcl' _ _ q3
      have q4 := hcl' _ _ q4
      have q5 := hcl' _ _ q5
      have q6 := hcl' _ _ q6
      obtain ⟨x, xv⟩ := y
      dsimp only at hyc hyo q0 q1 q2 q3 q4 q5 q6
      have HYC := Lib.hid hyc
      have HYO := Lib.hid hyo
      obtain ⟨xa, xcap, rfl, -⟩ := hyc
      have zit : (⟨(itmT x).toArray⟩ : ByteArray).size ≤ 39 := by rw [size_bytes]; exact itmT_len hyo
      have zis : ((⟨(itmT x).toArray⟩ : ByteArray) ++ ⟨#[32]⟩).size ≤ 40 := by rw [ByteArray.size_append]; omega
      clear hcl hcl' hy hym hyo htl HT
      go_wp2_with fail
      refine (itemText_any x (.slice xa x.chs.length xcap) _ HYO.out (((HYC.out.same (fun j hj => HB.out.block j hj)).mono hz).below (C := wr.heap.size) (by exact (by repeat (first | exact Below.refl _ _ | assumption | (refine Below.alloc ?_ ?_ _; rotate_left; · (first | omega | (simp; done) | (simp; omega) | fail)) | (refine Below.setCell ?_ ?_ _; rotate_left; · (first | omega | (simp; done) | (simp; omega) | fail)) | refine Below.drew ?_ | fail))) (Nat.le_refl _) |>.mono (by simp))).mono ?_
      rintro e w2 ⟨rfl, hb⟩
      have HB2 := Lib.hid (HB.out.trans (Below.trans (by exact (by repeat (first | exact Below.refl _ _ | assumption | (refine Below.alloc ?_ ?_ _; rotate_left; · (first | omega | (simp; done) | (simp; omega) | fail)) | (refine Below.setCell ?_ ?_ _; rotate_left; · (first | omega | (simp; done) | (simp; omega) | fail)) | refine Below.drew ?_ | fail))) (hb.mono (by simp; omega))))
      clear hb q0 q1 q2 q3 q4 q5 q6 HB
      go_wp2_with fail
      rw [show (⟨#[32]⟩ : ByteArray) = ⟨[32].toArray⟩ from rfl, cat_bytes, cat_bytes]
      go_roundw
      case rel => exact ⟨k + 1, _, by omega, by go_num, rfl, hst.out.symm, HB2⟩
      case measure => simp [intOf]; omega
    · obtain rfl : k = n := by omega
      have hF : Hid (formulaT sg (ys.map (·.1)) = (tx ++ [36]) ++ dec sg) := by
        show _ = _
        rw [HT.out, HN.out, List.take_length]
        simp [formulaT, itmsT]
      have ztd : ((⟨tx.toArray⟩ : ByteArray) ++ ⟨#[36]⟩).size ≤ 4001 := by rw [ByteArray.size_append]; omega
      clear htl HT
      go_wp2_with fail
      refine (Itoa_any sg hs.1 hs.2 _).mono ?_
      rintro e w2 ⟨rfl, rfl⟩
      go_wp2_with fail
      go_ret
      exact ⟨ret_S (by rw [hF.out, show (⟨#[36]⟩ : ByteArray) = ⟨[36].toArray⟩ from rfl, cat_bytes, cat_bytes]), HB.out⟩

end Go.Proofs.YtlfglbnbenaghaaGreatDoor
