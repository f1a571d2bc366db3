/- The parts Pi, Pf, Cj, Cc, Cd of the proof, joined. It holds without conditions of its own. -/
import Derived.Test.YtlfglbnbenaghaaGreatDoorTX13
import Derived.Test.YtlfglbnbenaghaaGreatDoorTX1
/- The formula's reader: what it reads is how it is written, and what is written it reads. -/
namespace Go.Proofs.YtlfglbnbenaghaaGreatDoor
set_option linter.unusedSimpArgs false
set_option linter.unusedVariables false
open Go

/-- A change as it can be written and read back. -/
structure ChW (c : Chg) : Prop where
  kind : c.kind = 1 ∨ c.kind = 2 ∨ c.kind = 3
  pos : 0 ≤ c.pos ∧ c.pos ≤ 12
  many : 0 ≤ c.many ∧ c.many ≤ 12
  none : c.kind ≠ 3 → c.many = 0
theorem skp_no {c d : UInt8} {t : Bs} (h : c ≠ d) : skipF [c] (d :: t) = none := by
  unfold skipF
  rw [if_neg]
  simp [List.isPrefixOf, h]
theorem skp_nil (c : UInt8) : skipF [c] [] = none := rfl
theorem skp_yes (c : UInt8) (t : Bs) : skipF [c] (c :: t) = some t := skipF_app [c] t
theorem noDig_of {c : UInt8} {t : Bs} (h : isDig c = false) : noDig (c :: t) := by
  intro d hd
  simp only [List.head?_cons, Option.some.injEq] at hd
  subst hd
  exact h
theorem dec_head {n : Int} (h0 : 0 ≤ n) (h1 : n ≤ 12) : ∃ c u, dec n = c :: u ∧ isDig c = true := by
  by_cases h : n < 10
  · exact ⟨_, _, dec_oneI h0 h, dig_is (by omega)⟩
  · exact ⟨_, _, dec_twoI (by omega) (by omega), dig_is (by omega)⟩
theorem skp_dec {c : UInt8} {n : Int} (h0 : 0 ≤ n) (h1 : n ≤ 12) (hc : isDig c = false) (t : Bs) : skipF [c] (dec n ++ t) = none := by
  obtain ⟨d, u, e, hd⟩ := dec_head h0 h1
  rw [e]
  exact skp_no (fun h => by rw [h, hd] at hc; cases hc)
theorem changeF_text {c : Chg} (h : ChW c) {t : Bs} (ht : noDig t) : changeF (chT c ++ t) = some (c, t) := by
  obtain ⟨k, p, m⟩ := c
  obtain ⟨h1, h2, h3, h4⟩ := h
  dsimp only at *
  unfold chT changeF
  dsimp only
  rcases h1 with rfl | rfl | rfl
  · rw [if_pos rfl, List.cons_append, skp_yes]
    dsimp only
    rw [numberF_dec h2.1 h2.2 (Or.inr ht), h4 (by decide)]
  · rw [if_neg (by decide), if_pos rfl, List.cons_append, skp_no (by decide), skp_yes]
    dsimp only
    rw [numberF_dec h2.1 h2.2 (Or.inr ht), h4 (by decide)]
  · rw [if_neg (by decide), if_neg (by decide), List.append_assoc, skp_dec h2.1 h2.2 (by decide), skp_dec h2.1 h2.2 (by decide)]
    dsimp only
    rw [List.cons_append, numberF_dec h2.1 h2.2 (Or.inr (noDig_of (by decide)))]
    dsimp only
    rw [skp_yes]
    dsimp only
    rw [numberF_dec h3.1 h3.2 (Or.inr ht)]
theorem changeF_is {s t : Bs} {c : Chg} (h : changeF s = some (c, t)) : s = chT c ++ t ∧ ChW c := by
  unfold changeF at h
  split at h
  · rename_i u hu
    split at h
    · rename_i n v hn
      simp only [Option.some.injEq, Prod.mk.injEq] at h
      obtain ⟨rfl, rfl⟩ := h
      obtain ⟨h1, h2, h3, _⟩ := numberF_is hn
      refine ⟨?_, Or.inl rfl, ⟨h2, h3⟩, by simp, fun _ => rfl⟩
      rw [skipF_is hu, h1]
      rfl
    · cases h
  · split at h
    · rename_i u hu
      split at h
      · rename_i n v hn
        simp only [Option.some.injEq, Prod.mk.injEq] at h
        obtain ⟨rfl, rfl⟩ := h
        obtain ⟨h1, h2, h3, _⟩ := numberF_is hn
        refine ⟨?_, Or.inr (Or.inl rfl), ⟨h2, h3⟩, by simp, fun _ => rfl⟩
        rw [skipF_is hu, h1]
        rfl
      · cases h
    · split at h
      · cases h
      · rename_i n u hn
        split at h
        · cases h
        · rename_i v hv
          split at h
          · cases h
          · rename_i m z hm
            simp only [Option.some.injEq, Prod.mk.injEq] at h
            obtain ⟨rfl, rfl⟩ := h
            obtain ⟨h1, h2, h3, _⟩ := numberF_is hn
            obtain ⟨h4, h5, h6, _⟩ := numberF_is hm
            refine ⟨?_, Or.inr (Or.inr rfl), ⟨h2, h3⟩, ⟨h5, h6⟩, fun h => absurd rfl h⟩
            rw [h1, skipF_is hv, h4]
            unfold chT
            rw [if_neg (show ¬ (3 : Int) = 1 by decide), if_neg (show ¬ (3 : Int) = 2 by decide)]
            simp
/-- The further changes, and the bracket. -/
def moreT (cs : List Chg) (t : Bs) : Bs := (cs.flatMap fun c => 44 :: chT c) ++ 41 :: t
theorem moreT_cons (c : Chg) (cs : List Chg) (t : Bs) : moreT (c :: cs) t = 44 :: (chT c ++ moreT cs t) := by simp [moreT]
theorem moreT_noDig (cs : List Chg) (t : Bs) : noDig (moreT cs t) := by
  cases cs with
  | nil => exact noDig_of (by decide)
  | cons c cs => rw [moreT_cons]; exact noDig_of (by decide)
theorem moreF_text : ∀ (f : Nat) (cs ds : List Chg) (t : Bs), ds.length ≤ f → (∀ c ∈ ds, ChW c) → moreF f cs (moreT ds t) = some (cs ++ ds, t)
  | 0, cs, ds, t, hl, _ => by
    have : ds = [] := List.length_eq_zero_iff.1 (by omega)
    subst this
    unfold moreF moreT
    simp only [List.flatMap_nil, List.nil_append]
    rw [skp_no (by decide), skp_yes]
    simp
  | f + 1, cs, [], t, _, _ => by
    unfold moreF moreT
    simp only [List.flatMap_nil, List.nil_append]
    rw [skp_no (by decide), skp_yes]
    simp
  | f + 1, cs, d :: ds, t, hl, h => by
    unfold moreF
    rw [moreT_cons, skp_yes]
    dsimp only
    rw [changeF_text (h d (by simp)) (moreT_noDig ds t)]
    dsimp only
    rw [moreF_text f (cs ++ [d]) ds t (by simpa using hl) (fun c hc => h c (by simp [hc]))]
    simp
theorem moreF_is : ∀ (f : Nat) (cs es : List Chg) (s t : Bs), moreF f cs s = some (es, t) → ∃ ds, es = cs ++ ds ∧ s = moreT ds t ∧ ds.length ≤ f ∧ ∀ c ∈ ds, ChW c
  | 0, cs, es, s, t, h => by
    unfold moreF at h
    split at h
    · cases h
    · split at h
      · rename_i u hu
        simp only [Option.some.injEq, Prod.mk.injEq] at h
        obtain ⟨rfl, rfl⟩ := h
        exact ⟨[], by simp, by rw [skipF_is hu]; rfl, by simp, fun c hc => by cases hc⟩
      · cases h
  | f + 1, cs, es, s, t, h => by
    unfold moreF at h
    split at h
    · rename_i u hu
      split at h
      · rename_i c v hv
        obtain ⟨ds, h1, h2, h3, h4⟩ := moreF_is f _ _ _ _ h
        obtain ⟨h5, h6⟩ := changeF_is hv
        refine ⟨c :: ds, by rw [h1]; simp, ?_, by simp; omega, fun d hd => ?_⟩
        · rw [moreT_cons, skipF_is hu, h5, h2]
          rfl
        · rcases List.mem_cons.1 hd with rfl | hd
          · exact h6
          · exact h4 d hd
      · cases h
    · split at h
      · rename_i u hu
        simp only [Option.some.injEq, Prod.mk.injEq] at h
        obtain ⟨rfl, rfl⟩ := h
        exact ⟨[], by simp, by rw [skipF_is hu]; rfl, by simp, fun c hc => by cases hc⟩
      · cases h
theorem joinB_cons (c : UInt8) (x : Bs) : ∀ (xs : List Bs), joinB c (x :: xs) = x ++ xs.flatMap fun y => c :: y
  | [] => by simp [joinB]
  | y :: ys => by
    rw [joinB, joinB_cons c y ys]
    simp
theorem chsT_cons (c : Chg) (cs : List Chg) (t : Bs) : chsT (c :: cs) ++ t = 40 :: (chT c ++ moreT cs t) := by
  unfold chsT
  rw [if_neg (by simp), List.map_cons, joinB_cons]
  simp [moreT, List.flatMap_map]
theorem changesF_text {cs : List Chg} (h : ∀ c ∈ cs, ChW c) (hl : cs.length ≤ 4) {t : Bs} (ht : ∀ u, t ≠ 40 :: u) : changesF (chsT cs ++ t) = some (cs, t) := by
  cases cs with
  | nil =>
    unfold changesF chsT
    rw [if_pos rfl, List.nil_append]
    cases t with
    | nil => rfl
    | cons d u => rw [skp_no (fun e => ht u (by rw [e]))]
  | cons c cs =>
    rw [chsT_cons]
    unfold changesF
    rw [skp_yes]
    dsimp only
    rw [changeF_text (h c (by simp)) (moreT_noDig cs t)]
    dsimp only
    rw [moreF_text 3 [c] cs t (by simpa using hl) (fun d hd => h d (by simp [hd]))]
    rfl
theorem changesF_is {s t : Bs} {cs : List Chg} (h : changesF s = some (cs, t)) : s = chsT cs ++ t ∧ (∀ c ∈ cs, ChW c) ∧ cs.length ≤ 4 := by
  unfold changesF at h
  split at h
  · simp only [Option.some.injEq, Prod.mk.injEq] at h
    obtain ⟨rfl, rfl⟩ := h
    exact ⟨rfl, fun c hc => (by cases hc), by simp⟩
  · rename_i u hu
    split at h
    · cases h
    · rename_i c v hv
      obtain ⟨ds, rfl, h2, h3, h4⟩ := moreF_is _ _ _ _ _ h
      obtain ⟨h5, h6⟩ := changeF_is hv
      refine ⟨?_, fun d hd => ?_, by simp; omega⟩
      · show s = chsT (c :: ds) ++ t
        rw [chsT_cons, skipF_is hu, h5, h2]
        rfl
      · rcases List.mem_cons.1 hd with rfl | hd
        · exact h6
        · exact h4 d hd
/-- An item as it can be written and read back. -/
structure ItW (x : Itm) : Prop where
  first : sigB x.fr x.fl = true
  last : sigB x.lr x.ll = true
  leaves : 0 ≤ x.leaves ∧ x.leaves ≤ 12
  few : x.chs.length ≤ 4
  chs : ∀ c ∈ x.chs, ChW c
  kind : (x.kind = 0 ∧ x.fr = x.lr ∧ x.fl = x.ll) ∨ (x.kind = 1 ∧ x.fl < 23 ∧ x.ll < 23 ∧ behindB x.lr x.ll x.fr x.fl = true ∧ x.chs = [])
theorem chsT_noDig (cs : List Chg) {t : Bs} (ht : noDig t) : noDig (chsT cs ++ t) := by
  cases cs with
  | nil => exact ht
  | cons c cs => rw [chsT_cons]; exact noDig_of (by decide)
theorem itemF_text {x : Itm} (h : ItW x) {t : Bs} (ht : noDig t) (ht2 : ∀ u, t ≠ 40 :: u) : itemF (itmT x ++ t) = some (x, t) := by
  obtain ⟨k, fr, fl, lr, ll, lv, chs⟩ := x
  obtain ⟨h1, h2, h3, h4, h5, h6⟩ := h
  dsimp only at *
  unfold itmT itemF
  dsimp only
  rcases h6 with ⟨rfl, rfl, rfl⟩ | ⟨rfl, h7, h8, h9, rfl⟩
  · rw [if_neg (by decide), List.append_assoc, List.append_assoc, sigF_text h1]
    dsimp only
    rw [skp_dec h3.1 h3.2 (by decide)]
    dsimp only
    rw [numberF_dec h3.1 h3.2 (Or.inr (chsT_noDig chs ht))]
    dsimp only
    rw [changesF_text h5 h4 ht2]
  · rw [if_pos rfl, List.append_assoc, List.append_assoc, List.append_assoc, sigF_text h1]
    dsimp only
    rw [List.cons_append, skp_yes]
    dsimp only
    rw [sigF_text h2]
    dsimp only
    rw [if_pos ⟨h7, h8, h9⟩, numberF_dec h3.1 h3.2 (Or.inr (chsT_noDig [] ht))]
    rfl
theorem itemF_is {s t : Bs} {x : Itm} (h : itemF s = some (x, t)) : s = itmT x ++ t ∧ ItW x := by
  unfold itemF at h
  split at h
  · cases h
  · rename_i a u ha
    have hs := (sigF_len ha).2
    split at h
    · split at h
      · cases h
      · rename_i n v hn
        obtain ⟨h1, h2, h3, _⟩ := numberF_is hn
        split at h
        · cases h
        · rename_i cs z hz
          simp only [Option.some.injEq, Prod.mk.injEq] at h
          obtain ⟨rfl, rfl⟩ := h
          obtain ⟨h4, h5, h6⟩ := changesF_is hz
          refine ⟨?_, hs, hs, ⟨h2, h3⟩, h6, h5, Or.inl ⟨rfl, rfl, rfl⟩⟩
          rw [sigF_is ha, h1, h4]
          unfold itmT
          rw [if_neg (show ¬ (0 : Int) = 1 by decide)]
          simp
    · rename_i v hv
      split at h
      · cases h
      · rename_i b y hb
        split at h
        · rename_i hc
          split at h
          · cases h
          · rename_i n z hn
            simp only [Option.some.injEq, Prod.mk.injEq] at h
            obtain ⟨rfl, rfl⟩ := h
            obtain ⟨h1, h2, h3, _⟩ := numberF_is hn
            refine ⟨?_, hs, (sigF_len hb).2, ⟨h2, h3⟩, by simp, fun c hc => (by cases hc), Or.inr ⟨rfl, hc.1, hc.2.1, hc.2.2, rfl⟩⟩
            rw [sigF_is ha, skipF_is hv, sigF_is hb, h1]
            unfold itmT chsT
            rw [if_pos rfl, if_pos rfl]
            simp
        · cases h
/-- Items, each with a blank behind. -/
def itemsT (xs : List Itm) : Bs := xs.flatMap fun x => itmT x ++ [32]
theorem itemsT_cons (x : Itm) (xs : List Itm) : itemsT (x :: xs) = itmT x ++ 32 :: itemsT xs := by simp [itemsT]
theorem sigT_head {r l : Int} (h : sigB r l = true) : ∃ c u, sigT r l = c :: u ∧ c ≠ 36 := by
  have hb : 1 ≤ r ∧ r ≤ 3 ∧ 0 ≤ l ∧ l ≤ 24 := by simp [sigB, inB] at h; omega
  cases hq : sigT r l with
  | nil => have := sigT_pos r l; rw [hq] at this; simp at this
  | cons c u =>
    refine ⟨c, u, rfl, fun e => ?_⟩
    have h1 := sigF_text h []
    rw [List.append_nil, hq, e] at h1
    have h2 : sigF (36 :: u) = none := rfl
    rw [h2] at h1
    cases h1
theorem itmT_head {x : Itm} (h : ItW x) (t : Bs) : ∃ c u, itmT x ++ t = c :: u ∧ c ≠ 36 := by
  obtain ⟨c, u, e, hc⟩ := sigT_head h.first
  unfold itmT
  split
  · exact ⟨c, _, by rw [e]; rfl, hc⟩
  · exact ⟨c, _, by rw [e]; rfl, hc⟩
theorem itemsF_text : ∀ (f : Nat) (xs : List Itm) (t : Bs), xs.length < f → (∀ x ∈ xs, ItW x) → itemsF f (itemsT xs ++ 36 :: t) = some (xs, t)
  | 0, xs, t, h, _ => by omega
  | f + 1, [], t, _, _ => by
    unfold itemsF
    rw [show itemsT [] ++ 36 :: t = 36 :: t from rfl, skp_yes]
  | f + 1, x :: xs, t, hl, h => by
    unfold itemsF
    obtain ⟨c, u, e, hc⟩ := itmT_head (h x (by simp)) (32 :: (itemsT xs ++ 36 :: t))
    have e1 : itemsT (x :: xs) ++ 36 :: t = itmT x ++ (32 :: (itemsT xs ++ 36 :: t)) := by rw [itemsT_cons]; simp
    rw [e1, e, skp_no (fun h => hc h.symm), ← e]
    dsimp only
    rw [itemF_text (h x (by simp)) (noDig_of (by decide)) (by intro u hu; cases hu)]
    dsimp only
    rw [skp_yes]
    dsimp only
    rw [itemsF_text f xs t (by simpa using hl) (fun y hy => h y (by simp [hy]))]
theorem itemsF_is : ∀ (f : Nat) (xs : List Itm) (s t : Bs), itemsF f s = some (xs, t) → s = itemsT xs ++ 36 :: t ∧ ∀ x ∈ xs, ItW x
  | 0, _, _, _, h => by cases h
  | f + 1, xs, s, t, h => by
    unfold itemsF at h
    split at h
    · rename_i u hu
      simp only [Option.some.injEq, Prod.mk.injEq] at h
      obtain ⟨rfl, rfl⟩ := h
      exact ⟨by rw [skipF_is hu]; rfl, fun x hx => by cases hx⟩
    · split at h
      · cases h
      · rename_i x u hx
        split at h
        · cases h
        · rename_i v hv
          split at h
          · cases h
          · rename_i ys z hz
            simp only [Option.some.injEq, Prod.mk.injEq] at h
            obtain ⟨rfl, rfl⟩ := h
            obtain ⟨h1, h2⟩ := itemsF_is f _ _ _ hz
            obtain ⟨h3, h4⟩ := itemF_is hx
            refine ⟨?_, fun y hy => ?_⟩
            · rw [itemsT_cons, h3, skipF_is hv, h1]
              simp
            · rcases List.mem_cons.1 hy with rfl | hy
              · exact h4
              · exact h2 y hy
theorem itemsT_len (xs : List Itm) : xs.length ≤ (itemsT xs).length := by
  induction xs with
  | nil => simp
  | cons x xs ih => rw [itemsT_cons]; simp; omega
/-- **A formula is read just if it is one: items, and what is signed.** -/
theorem bookF_text {xs : List Itm} {n : Int} (h : ∀ x ∈ xs, ItW x) (h0 : 0 ≤ n) (h1 : n ≤ 12) : bookF (itemsT xs ++ 36 :: dec n) = some (⟨n, gsOf xs⟩, []) := by
  unfold bookF
  have hl := itemsT_len xs
  rw [itemsF_text _ xs (dec n) (by rw [List.length_append]; omega) h]
  dsimp only
  have := numberF_dec h0 h1 (t := []) (Or.inr (fun c hc => by cases hc))
  rw [List.append_nil] at this
  rw [this]
theorem bookF_is {s : Bs} {b : Bk} (h : allF (bookF s) = some b) : ∃ xs, s = itemsT xs ++ 36 :: dec b.signed ∧ b.gs = gsOf xs ∧ (∀ x ∈ xs, ItW x) ∧ 0 ≤ b.signed ∧ b.signed ≤ 12 := by
  cases hq : bookF s with
  | none => rw [hq] at h; cases h
  | some p =>
    obtain ⟨b', t⟩ := p
    rw [hq] at h
    cases t with
    | cons c t => cases h
    | nil =>
      simp only [allF, Option.some.injEq] at h
      subst h
      unfold bookF at hq
      split at hq
      · cases hq
      · rename_i xs u hx
        split at hq
        · cases hq
        · rename_i n v hn
          simp only [Option.some.injEq, Prod.mk.injEq] at hq
          obtain ⟨rfl, rfl⟩ := hq
          obtain ⟨h1, h2⟩ := itemsF_is _ _ _ _ hx
          obtain ⟨h3, h4, h5, _⟩ := numberF_is hn
          exact ⟨xs, by rw [h1, h3, List.append_nil], rfl, h2, h4, h5⟩
theorem formulaT_is (n : Int) (xs : List Itm) : formulaT n xs = itemsT xs ++ 36 :: dec n := rfl
end Go.Proofs.YtlfglbnbenaghaaGreatDoor

/- How many leaves a book has. Nothing of the program. -/
namespace Go.Proofs.YtlfglbnbenaghaaGreatDoor
set_option linter.unusedSimpArgs false
set_option linter.unusedVariables false

theorem snoc_rec {α : Type} {motive : List α → Prop} (nil : motive []) (snoc : ∀ xs x, motive xs → motive (xs ++ [x])) (xs : List α) : motive xs := by
  have h : ∀ ys : List α, motive ys.reverse := fun ys => by
    induction ys with
    | nil => exact nil
    | cons y ys ih => rw [List.reverse_cons]; exact snoc _ _ ih
  rw [← List.reverse_reverse xs]
  exact h _
def sumR (f : Nat → Int) : Nat → Int
  | 0 => 0
  | n + 1 => sumR f n + f n
theorem sumR_congr {f g : Nat → Int} : ∀ {n : Nat}, (∀ k, k < n → f k = g k) → sumR f n = sumR g n
  | 0, _ => rfl
  | n + 1, h => by
    unfold sumR
    rw [sumR_congr fun k hk => h k (by omega), h n (by omega)]
theorem sumR_one {f g : Nat → Int} {p : Nat} : ∀ {n : Nat}, p < n → (∀ k, k < n → k ≠ p → f k = g k) → sumR f n = sumR g n + (f p - g p)
  | 0, h, _ => by omega
  | n + 1, hp, h => by
    unfold sumR
    by_cases e : p = n
    · subst e
      rw [sumR_congr (f := f) (g := g) fun k hk => h k (by omega) (by omega)]
      omega
    · rw [sumR_one (p := p) (n := n) (by omega) fun k hk hne => h k (by omega) hne, h n (by omega) (fun e' => e e'.symm)]
      omega
theorem flat_len {α : Type} (f : Nat → List α) : ∀ n : Nat, (((List.range n).flatMap f).length : Int) = sumR (fun k => (f k).length) n
  | 0 => by simp [sumR]
  | n + 1 => by
    rw [List.range_succ, List.flatMap_append, List.length_append]
    unfold sumR
    rw [← flat_len f n]
    simp
/-- How many leaves are at a number. -/
def cntF (k : Nat) (f : Fate) : Int := (if 0 < k ∧ f.gone = false then 1 else 0) + f.added
theorem cnt_is {i k : Nat} {f : Fate} (h : 0 ≤ f.added) : ((lvsNum i k f).length : Int) = cntF k f := by
  unfold lvsNum cntF
  rw [List.length_append, List.length_map, List.length_range]
  split <;> simp <;> omega
/-- Changes in their order. -/
def ltC (b c : Chg) : Prop := b.pos < c.pos ∨ (b.pos = c.pos ∧ c.kind = 3 ∧ b.kind ≠ 3)
theorem ltC_trans {a b c : Chg} (h1 : ltC a b) (h2 : ltC b c) : ltC a c := by unfold ltC at *; omega
theorem order_lt {b c : Chg} (h : orderB b c = true) : ltC b c := by
  unfold orderB at h
  unfold ltC
  split at h
  · simp only [Bool.and_eq_true, decide_eq_true_eq] at h
    omega
  · simp only [decide_eq_true_eq] at h
    omega
theorem chs_sorted : ∀ (cs : List Chg) (l : Int) (p : Option Chg) (i : Nat), (chsErr l p i cs).2 = 0 → cs.Pairwise ltC ∧ ∀ q, p = some q → ∀ c ∈ cs, ltC q c
  | [], _, _, _, _ => ⟨List.Pairwise.nil, fun _ _ _ h => by cases h⟩
  | x :: xs, l, p, i, h => by
    unfold chsErr at h
    by_cases h0 : chErr l p x = 0
    · rw [if_pos h0] at h
      obtain ⟨h1, h2⟩ := chs_sorted xs l (some x) (i + 1) h
      refine ⟨List.pairwise_cons.2 ⟨fun c hc => h2 x rfl c hc, h1⟩, fun q hq c hc => ?_⟩
      subst hq
      have hqx : ltC q x := by
        unfold chErr at h0
        by_cases hk : kindB x = false
        · rw [if_pos hk] at h0; omega
        rw [if_neg hk] at h0
        by_cases hr : rangeB x l = false
        · rw [if_pos hr] at h0; omega
        rw [if_neg hr] at h0
        dsimp only at h0
        by_cases ho : orderB q x = false
        · rw [if_pos ho] at h0; omega
        · exact order_lt (by simpa using ho)
      rcases List.mem_cons.1 hc with rfl | hc
      · exact hqx
      · exact ltC_trans hqx (h2 x rfl c hc)
    · rw [if_neg h0] at h; exact absurd h h0
/-- What a change adds to the leaves. -/
def addF (c : Chg) : Int := if c.kind = 1 then c.many - 1 else c.many
def sumC (cs : List Chg) : Int := (cs.map addF).sum
theorem fate_snoc (cs : List Chg) (c : Chg) (n : Int) : fateF (cs ++ [c]) n = fateStep n (fateF cs n) c := by unfold fateF; rw [List.foldl_append]; rfl
theorem fate_none : ∀ (cs : List Chg) (n : Int), (∀ c ∈ cs, c.pos ≠ n) → fateF cs n = ⟨false, false, 0⟩ := by
  intro cs
  induction cs using snoc_rec with
  | nil => intro n _; rfl
  | snoc cs c ih =>
    intro n h
    rw [fate_snoc, ih n fun x hx => h x (by simp [hx])]
    unfold fateStep
    rw [if_pos (h c (by simp))]
theorem fate_zero : ∀ (cs : List Chg) (n : Int), (∀ c ∈ cs, c.pos = n → c.kind ≠ 3) → (fateF cs n).added = 0 := by
  intro cs
  induction cs using snoc_rec with
  | nil => intro n _; rfl
  | snoc cs c ih =>
    intro n h
    have h1 := ih n fun x hx => h x (by simp [hx])
    rw [fate_snoc]
    unfold fateStep
    split
    · exact h1
    · rename_i hp
      have hk := h c (by simp) (by omega)
      split
      · exact h1
      · split
        · exact h1
        · first | exact h1 | (rw [if_neg hk]; exact h1)
theorem cnt_sum (n : Nat) : ∀ (cs : List Chg), cs.Pairwise ltC → (∀ c ∈ cs, (c.kind = 1 ∨ c.kind = 2 ∨ c.kind = 3) ∧ 0 ≤ c.pos ∧ c.pos ≤ n ∧ (c.kind ≠ 3 → 1 ≤ c.pos ∧ c.many = 0)) → sumR (fun k => cntF k (fateF cs k)) (n + 1) = n + sumC cs := by
  intro cs
  induction cs using snoc_rec with
  | nil =>
    intro _ _
    have : ∀ m : Nat, sumR (fun k => cntF k (fateF [] k)) (m + 1) = m := fun m => by
      induction m with
      | zero => simp [sumR, cntF, fateF]
      | succ m ih =>
        unfold sumR
        rw [ih]
        simp [cntF, fateF]
    rw [this n]
    simp [sumC]
  | snoc cs c ih =>
    intro hp hc
    rw [List.pairwise_append] at hp
    obtain ⟨hp1, -, hp2⟩ := hp
    obtain ⟨hk, h0, h1, h2⟩ := hc c (by simp)
    have hi := ih hp1 fun x hx => hc x (by simp [hx])
    have hlt : ∀ x ∈ cs, ltC x c := fun x hx => hp2 x hx c (by simp)
    have e1 : sumC (cs ++ [c]) = sumC cs + addF c := by simp [sumC]
    rw [e1, sumR_one (g := fun k => cntF k (fateF cs k)) (p := c.pos.toNat) (by omega) (fun k hkn hne => by
      try dsimp only
      rw [fate_snoc]
      unfold fateStep
      rw [if_pos (by omega)]), hi]
    try dsimp only
    rw [show ((c.pos.toNat : Nat) : Int) = c.pos by omega, fate_snoc]
    unfold fateStep
    rw [if_neg (by omega)]
    by_cases k1 : c.kind = 1
    · have hf := fate_none cs c.pos fun x hx e => by have := hlt x hx; unfold ltC at this; omega
      have h3 := h2 (by omega)
      rw [hf, if_pos k1]
      unfold cntF addF
      rw [if_pos k1]
      have : 0 < c.pos.toNat := by omega
      simp [this]
      omega
    by_cases k2 : c.kind = 2
    · have h3 := h2 (by omega)
      rw [if_neg k1, if_pos k2]
      unfold cntF addF
      rw [if_neg k1]
      dsimp only
      omega
    · have k3 : c.kind = 3 := by omega
      have hz := fate_zero cs c.pos fun x hx e => by have := hlt x hx; unfold ltC at this; omega
      rw [if_neg k1, if_neg k2, if_pos k3]
      unfold cntF addF
      rw [if_neg k1]
      dsimp only
      omega
theorem chs_facts {g : Gth} (h : GOk g) : g.chs.Pairwise ltC ∧ ∀ c ∈ g.chs, (c.kind = 1 ∨ c.kind = 2 ∨ c.kind = 3) ∧ 0 ≤ c.pos ∧ c.pos ≤ g.leaves.toNat ∧ (c.kind ≠ 3 → 1 ≤ c.pos ∧ c.many = 0) := by
  refine ⟨(chs_sorted _ _ _ _ h.chs).1, fun c hc => ?_⟩
  have hl := h.leaves
  obtain ⟨h1, h2, h3, h4, h5⟩ := h.ch hc
  refine ⟨h1, h2, by omega, fun hk => ?_⟩
  obtain ⟨_, hr⟩ := chsErr_zero h.chs c hc
  unfold rangeB at hr
  rw [if_neg hk] at hr
  simp only [Bool.and_eq_true, inB_iff, decide_eq_true_eq] at hr
  omega
theorem added_nonneg : ∀ (cs : List Chg) (n : Int), (∀ c ∈ cs, 0 ≤ c.many) → 0 ≤ (fateF cs n).added := by
  intro cs
  induction cs using snoc_rec with
  | nil => intro n _; simp [fateF]
  | snoc cs c ih =>
    intro n h
    have h1 := ih n fun x hx => h x (by simp [hx])
    rw [fate_snoc]
    unfold fateStep
    split
    · exact h1
    · split
      · exact h1
      · split
        · exact h1
        · split
          · exact h c (by simp)
          · exact h1
/-- HOW MANY LEAVES A GATHERING HAS. -/
theorem lvsG_count {i : Nat} {g : Gth} (h : GOk g) : ((lvsG i g).length : Int) = g.leaves + sumC g.chs := by
  have hl := h.leaves
  obtain ⟨h1, h2⟩ := chs_facts h
  have e : (g.leaves + 1).toNat = g.leaves.toNat + 1 := by omega
  unfold lvsG
  rw [e, flat_len, sumR_congr (g := fun k => cntF k (fateF g.chs k)) fun k _ => cnt_is (added_nonneg _ _ fun c hc => (h.ch hc).2.2.2.1), cnt_sum _ _ h1 h2]
  omega
def sumG (gs : List Gth) : Int := (gs.map fun g => g.leaves + sumC g.chs).sum
theorem lvsFrom_count : ∀ (gs : List Gth) (i : Nat), (∀ g ∈ gs, GOk g) → ((lvsFrom i gs).length : Int) = sumG gs
  | [], _, _ => rfl
  | g :: gs, i, h => by
    unfold lvsFrom sumG
    rw [List.length_append, List.map_cons, List.sum_cons]
    have h1 := lvsG_count (i := i) (h g (by simp))
    have h2 := lvsFrom_count gs (i + 1) fun x hx => h x (by simp [hx])
    unfold sumG at h2
    omega
end Go.Proofs.YtlfglbnbenaghaaGreatDoor

/- The reference: what the changes of a gathering do at a number (plus); it says the same as fateF. -/
namespace Go.Proofs.YtlfglbnbenaghaaGreatDoor
set_option linter.unusedSimpArgs false
set_option linter.unusedVariables false
open Go Go.RowKit Go.Sort Go.BigFrame

def plusStep (n : Int) (p : Int × Int) (c : Chg) : Int × Int := if c.pos = n then (if c.kind = 3 then (c.many, p.2) else (p.1, c.kind)) else p
def plusG (cs : List Chg) (n : Int) : Int × Int := cs.foldl (plusStep n) (0, 0)
theorem plus_snoc (cs : List Chg) (c : Chg) (n : Int) : plusG (cs ++ [c]) n = plusStep n (plusG cs n) c := by unfold plusG; rw [List.foldl_append]; rfl
theorem plus_take {cs : List Chg} {k : Nat} {c : Chg} {n : Int} (h : cs[k]? = some c) : plusG (cs.take (k + 1)) n = plusStep n (plusG (cs.take k) n) c := by
  rw [List.take_add_one, h]
  exact plus_snoc _ _ _
theorem plus_none : ∀ (cs : List Chg) (n : Int), (∀ c ∈ cs, c.pos ≠ n) → plusG cs n = (0, 0) := by
  intro cs
  induction cs using snoc_rec with
  | nil => intro n _; rfl
  | snoc cs c ih =>
    intro n h
    rw [plus_snoc, ih n fun x hx => h x (by simp [hx])]
    unfold plusStep
    rw [if_neg (h c (by simp))]
/-- The kind that a fate has, as plus tells it. -/
def fateK (f : Fate) : Int := if f.gone then 1 else if f.swapped then 2 else 0
theorem plus_is : ∀ (cs : List Chg) (n : Int), cs.Pairwise ltC → (∀ c ∈ cs, c.kind = 1 ∨ c.kind = 2 ∨ c.kind = 3) → plusG cs n = ((fateF cs n).added, fateK (fateF cs n)) := by
  intro cs
  induction cs using snoc_rec with
  | nil => intro n _ _; rfl
  | snoc cs c ih =>
    intro n hp hk
    rw [List.pairwise_append] at hp
    obtain ⟨hp1, -, hp2⟩ := hp
    have hi := ih n hp1 fun x hx => hk x (by simp [hx])
    have hkc := hk c (by simp)
    have hlt : ∀ x ∈ cs, ltC x c := fun x hx => hp2 x hx c (by simp)
    rw [plus_snoc, fate_snoc]
    unfold plusStep fateStep
    by_cases hpos : c.pos = n
    · by_cases k3 : c.kind = 3
      · simp [hpos, k3, hi, fateK]
      · have h0 : ∀ x ∈ cs, x.pos ≠ n := fun x hx e => by
          have := hlt x hx
          unfold ltC at this
          omega
        have hf := fate_none cs n h0
        by_cases k1 : c.kind = 1
        · simp [hpos, k1, hi, hf, fateK]
        · have k2 : c.kind = 2 := by omega
          simp [hpos, k2, hi, hf, fateK]
    · simp [hpos, hi]

end Go.Proofs.YtlfglbnbenaghaaGreatDoor

/- The reference's error of a gathering, as plain Lean, and that it is the one of the program. -/
namespace Go.Proofs.YtlfglbnbenaghaaGreatDoor
set_option linter.unusedSimpArgs false
set_option linter.unusedVariables false

/-- The error of change i. -/
def refCh (leaves : Int) (prev : Option Chg) (c : Chg) : Int :=
  if inB 1 3 c.kind = false then 6
  else if (inB (if c.kind = 3 then 0 else 1) leaves c.pos && (if c.kind = 3 then inB 1 4 c.many else decide (c.many = 0))) = false then 7
  else match prev with
    | none => 0
    | some p => if c.pos < p.pos ∨ (c.pos = p.pos ∧ (c.kind ≠ 3 ∨ p.kind = 3)) then 2 else 0
theorem refCh_is (leaves : Int) (prev : Option Chg) (c : Chg) : refCh leaves prev c = chErr leaves prev c := by
  have hk : inB 1 3 c.kind = kindB c := by
    unfold inB kindB
    by_cases h1 : c.kind = 1
    · simp [h1]
    · by_cases h2 : c.kind = 2
      · simp [h2]
      · by_cases h3 : c.kind = 3
        · simp [h3]
        · have : ¬ (1 ≤ c.kind ∧ c.kind ≤ 3) := by omega
          simp [h1, h2, h3]; omega
  have hr : (inB (if c.kind = 3 then 0 else 1) leaves c.pos && (if c.kind = 3 then inB 1 4 c.many else decide (c.many = 0))) = rangeB c leaves := by
    unfold rangeB; split <;> rfl
  unfold refCh chErr
  rw [hk, hr]
  cases prev with
  | none => rfl
  | some p =>
    simp only []
    by_cases h1 : kindB c = false
    · simp [h1]
    · by_cases h2 : rangeB c leaves = false
      · simp [h2]
      · simp only [h1, h2, if_false]
        have : (c.pos < p.pos ∨ (c.pos = p.pos ∧ (c.kind ≠ 3 ∨ p.kind = 3))) ↔ orderB p c = false := by
          unfold orderB
          by_cases e : c.pos = p.pos
          · by_cases k : c.kind = 3 <;> by_cases q : p.kind = 3 <;> simp [e, k, q]
          · simp [e]; omega
        by_cases h3 : orderB p c = false
        · simp [h3, this]
        · simp [h3, this]

/-- The place of a lettered signature among all of them. -/
def rankG (g : Gth) : Int := if 23 ≤ g.letter then -1 else (g.round - 1) * 23 + g.letter
def ranksMax (gs : List Gth) : Int := gs.foldl (fun m g => max m (rankG g)) (-1)
/-- The error of a gathering behind others. -/
def refGth (before : List Gth) (g : Gth) : Int :=
  if sigB g.round g.letter = false then 7
  else if before.any (fun h => decide (h.round = g.round ∧ h.letter = g.letter)) then 5
  else if 0 ≤ rankG g ∧ rankG g < ranksMax before then 2
  else if g.leaves ≠ 1 ∧ (inB 2 12 g.leaves = false ∨ g.leaves % 2 = 1) then 7
  else if 4 < g.chs.length then 3
  else (chsErr g.leaves none 0 g.chs).2

def sigOf (g : Gth) : Int × Int := (g.round, g.letter)
def lastG (gs : List Gth) : Int × Int := gs.foldl lastOf (0, 0)
/-- What is so of gatherings that have no error: the last lettered one is the greatest. -/
structure OkG (gs : List Gth) : Prop where
  sig : ∀ g ∈ gs, sigB g.round g.letter = true
  last : (ranksMax gs = -1 ∧ lastG gs = (0, 0)) ∨ (0 ≤ ranksMax gs ∧ lastG gs ∈ gs.map sigOf ∧ (lastG gs).2 < 23 ∧ ranksMax gs = ((lastG gs).1 - 1) * 23 + (lastG gs).2)
theorem sigB_is {r l : Int} (h : sigB r l = true) : 1 ≤ r ∧ r ≤ 3 ∧ 0 ≤ l ∧ l ≤ 24 := by simp [sigB, inB] at h; omega
theorem okG_nil : OkG [] := ⟨fun _ h => (by cases h), Or.inl ⟨rfl, rfl⟩⟩

theorem rank_iff {before : List Gth} (h : OkG before) (g : Gth) (hs : sigB g.round g.letter = true) (hm : sigOf g ∉ before.map sigOf) :
    (0 ≤ rankG g ∧ rankG g < ranksMax before) ↔ (g.letter < 23 ∧ behindB g.round g.letter (lastG before).1 (lastG before).2 = false) := by
  have hb := sigB_is hs
  unfold rankG behindB
  rcases h.last with ⟨h1, h2⟩ | ⟨h1, h2, h3, h4⟩
  · rw [h1, h2]
    by_cases hl : 23 ≤ g.letter
    · rw [if_pos hl]; omega
    · rw [if_neg hl, if_neg (by show ¬ g.round = 0; omega), decide_eq_false_iff_not]
      show (_ ∧ _) ↔ (_ ∧ ¬ (0 : Int) < g.round)
      omega
  · have hne : ¬ (g.round = (lastG before).1 ∧ g.letter = (lastG before).2) := fun ⟨e1, e2⟩ => hm (by
      have : sigOf g = lastG before := by unfold sigOf; rw [e1, e2]
      rw [this]; exact h2)
    obtain ⟨q, hq, hqe⟩ := List.mem_map.1 h2
    have hqb := sigB_is (h.sig q hq)
    have e1 : q.round = (lastG before).1 := by rw [← hqe]; rfl
    have e2 : q.letter = (lastG before).2 := by rw [← hqe]; rfl
    rw [h4]
    by_cases hl : 23 ≤ g.letter
    · rw [if_pos hl]; omega
    · rw [if_neg hl]
      by_cases e : g.round = (lastG before).1
      · rw [if_pos e, decide_eq_false_iff_not]
        omega
      · rw [if_neg e, decide_eq_false_iff_not]
        omega

theorem leaves_iff (n : Int) : (n ≠ 1 ∧ (inB 2 12 n = false ∨ n % 2 = 1)) ↔ foldedB n = false := by
  unfold foldedB inB
  by_cases h1 : n = 1
  · simp [h1]
  · simp only [h1, decide_false, Bool.false_or, Bool.and_eq_false_iff, decide_eq_false_iff_not, ne_eq, not_false_eq_true, true_and]
    omega

theorem refGth_is {before : List Gth} (h : OkG before) (g : Gth) : refGth before g = gthErr (before.map sigOf) (lastG before) g := by
  unfold refGth gthErr
  by_cases hs : sigB g.round g.letter = false
  · rw [if_pos hs, if_pos hs]
  rw [if_neg hs, if_neg hs]
  have hs' : sigB g.round g.letter = true := by simpa using hs
  have hm : (before.any (fun h => decide (h.round = g.round ∧ h.letter = g.letter)) = true) ↔ (g.round, g.letter) ∈ before.map sigOf := by
    simp only [List.any_eq_true, decide_eq_true_eq, List.mem_map, sigOf, Prod.mk.injEq]
  by_cases hm' : (g.round, g.letter) ∈ before.map sigOf
  · rw [if_pos (hm.2 hm'), if_pos hm']
  rw [if_neg (fun e => hm' (hm.1 e)), if_neg hm']
  have hr := rank_iff h g hs' hm'
  by_cases hr' : g.letter < 23 ∧ behindB g.round g.letter (lastG before).1 (lastG before).2 = false
  · rw [if_pos hr', if_pos (hr.2 hr')]
  rw [if_neg hr', if_neg (fun e => hr' (hr.1 e))]
  have hl := leaves_iff g.leaves
  by_cases hl' : foldedB g.leaves = false
  · rw [if_pos hl', if_pos (hl.2 hl')]
  rw [if_neg hl', if_neg (fun e => hl' (hl.1 e))]

theorem ranksMax_snoc (gs : List Gth) (g : Gth) : ranksMax (gs ++ [g]) = max (ranksMax gs) (rankG g) := by simp [ranksMax]
theorem lastG_snoc (gs : List Gth) (g : Gth) : lastG (gs ++ [g]) = lastOf (lastG gs) g := by simp [lastG]
theorem okG_snoc {before : List Gth} (h : OkG before) (g : Gth) (h0 : refGth before g = 0) : OkG (before ++ [g]) := by
  unfold refGth at h0
  by_cases hs : sigB g.round g.letter = false
  · rw [if_pos hs] at h0; cases h0
  rw [if_neg hs] at h0
  have hs' : sigB g.round g.letter = true := by simpa using hs
  split at h0
  · cases h0
  split at h0
  · cases h0
  rename_i hr
  have hb := sigB_is hs'
  refine ⟨fun q hq => ?_, ?_⟩
  · rcases List.mem_append.1 hq with hq | hq
    · exact h.sig q hq
    · rw [List.mem_singleton] at hq; rw [hq]; exact hs'
  · rw [ranksMax_snoc, lastG_snoc]
    unfold lastOf
    by_cases hl : g.letter < 23
    · rw [if_pos hl]
      have e : rankG g = (g.round - 1) * 23 + g.letter := if_neg (by omega)
      have hmx : ¬ rankG g < ranksMax before := fun hh => hr ⟨by rw [e]; omega, hh⟩
      refine Or.inr ⟨?_, ?_, hl, ?_⟩
      · rw [e]; omega
      · simp [sigOf]
      · show max _ _ = (g.round - 1) * 23 + g.letter
        omega
    · rw [if_neg hl]
      have e : rankG g = -1 := if_pos (by omega)
      rw [e]
      rcases h.last with ⟨h1, h2⟩ | ⟨h1, h2, h3, h4⟩
      · exact Or.inl ⟨by rw [h1]; rfl, h2⟩
      · exact Or.inr ⟨by omega, by rw [List.map_append]; exact List.mem_append_left _ h2, h3, by omega⟩

/-- The first gathering with an error, behind others. -/
def refGs : List Gth → Nat → List Gth → Nat × Int
  | _, _, [] => (0, 0)
  | before, i, g :: gs => if refGth before g = 0 then refGs (before ++ [g]) (i + 1) gs else (i, refGth before g)
theorem refGs_is : ∀ (gs : List Gth) (before : List Gth) (i : Nat), OkG before → refGs before i gs = gsErr (before.map sigOf) (lastG before) i gs
  | [], _, _, _ => rfl
  | g :: gs, before, i, h => by
    unfold refGs gsErr
    rw [← refGth_is h g]
    by_cases h0 : refGth before g = 0
    · rw [if_pos h0, if_pos h0, refGs_is gs _ _ (okG_snoc h g h0), List.map_append, lastG_snoc]
      rfl
    · rw [if_neg h0, if_neg h0]
end Go.Proofs.YtlfglbnbenaghaaGreatDoor

/- The reference's error of a change of a gathering. -/
namespace Go.Proofs.YtlfglbnbenaghaaGreatDoor
set_option linter.unusedSimpArgs false
set_option linter.unusedVariables false
open Go Go.RowKit Go.Sort Go.BigFrame

set_option maxRecDepth 100000 in
set_option maxHeartbeats 400000 in
theorem refChange_bad (g : Gth) (a : Option Addr) (n cap : Nat) (i : Nat) (c : Chg) (prev : Option Chg) (w : World) (hch : ChsAt w.heap.size w (.slice a n cap) g.chs) (hi : g.chs[i]? = some c) (hn : g.chs.length ≤ 100) (hk : inB 1 3 c.kind = false) :
    Calls Tryz.prog 85 #[.agg #[.int .i64 g.round, .int .i64 g.letter, .int .i64 g.leaves, .slice a n cap], .int .i64 i] w fun e w' => e = .returned (.int .i64 6) ∧ Below w.heap.size w w' := by
  obtain ⟨a', cap', hav, hcell⟩ := hch
  simp only [Value.slice.injEq] at hav
  obtain ⟨rfl, rfl, rfl⟩ := hav
  have hlt := (List.getElem?_eq_some_iff.1 hi).1
  obtain ⟨b, off, rfl, hb, hcell⟩ := hcell (fun e => by rw [e] at hlt; simp at hlt)
  obtain ⟨q0, q1, q2⟩ := hcell i c hi
  have d2 : ((i : Int) < g.chs.length) := by omega
  clear hcell hi hlt
  go_enter Tryz.func85, Tryz.ntmps85
  go_wp2_with fail
  refine (refIn_any c.kind 1 3 _).mono ?_
  rintro e w1 ⟨rfl, hb1⟩
  rw [hk]
  have hb0 : Below w.heap.size w w1 := Below.trans (by exact (by repeat (first | (refine Below.setCell ?_ ?_ _; rotate_left; · (first | omega | (simp; done) | (simp; omega) | fail)) | (refine Below.alloc ?_ ?_ _; rotate_left; · (first | omega | (simp; done) | (simp; omega) | fail)) | refine Below.drew ?_ | exact Below.refl _ _ | fail))) (hb1.mono (by simp; try omega))
  clear hb1
  go_wp2_with fail
  go_ret
  exact ⟨rfl, hb0⟩

set_option maxRecDepth 100000 in
set_option maxHeartbeats 400000 in
theorem refChange_three (g : Gth) (a : Option Addr) (n cap : Nat) (i : Nat) (cp cm : Int) (w : World) (hch : ChsAt w.heap.size w (.slice a n cap) g.chs) (hi : g.chs[i]? = some ⟨3, cp, cm⟩) (hn : g.chs.length ≤ 100) (hr : (inB 0 g.leaves cp && inB 1 4 cm) = false) :
    Calls Tryz.prog 85 #[.agg #[.int .i64 g.round, .int .i64 g.letter, .int .i64 g.leaves, .slice a n cap], .int .i64 i] w fun e w' => e = .returned (.int .i64 7) ∧ Below w.heap.size w w' := by
  obtain ⟨a', cap', hav, hcell⟩ := hch
  simp only [Value.slice.injEq] at hav
  obtain ⟨rfl, rfl, rfl⟩ := hav
  have hlt := (List.getElem?_eq_some_iff.1 hi).1
  obtain ⟨b, off, rfl, hb, hcell⟩ := hcell (fun e => by rw [e] at hlt; simp at hlt)
  obtain ⟨q0, q1, q2⟩ := hcell i _ hi
  have d2 : ((i : Int) < g.chs.length) := by omega
  clear hcell hi hlt
  go_enter Tryz.func85, Tryz.ntmps85
  go_wp2_with fail
  refine (refIn_any 3 1 3 _).mono ?_
  rintro e w1 ⟨rfl, hb1⟩
  rw [show inB 1 3 3 = true from rfl]
  have hb0 : Below w.heap.size w w1 := Below.trans (by exact (by repeat (first | (refine Below.setCell ?_ ?_ _; rotate_left; · (first | omega | (simp; done) | (simp; omega) | fail)) | (refine Below.alloc ?_ ?_ _; rotate_left; · (first | omega | (simp; done) | (simp; omega) | fail)) | refine Below.drew ?_ | exact Below.refl _ _ | fail))) (hb1.mono (by simp; try omega))
  have hz := hb0.size
  have k0 : w1.cell? ⟨w.heap.size + 1, 0, none⟩ = some (.int .i64 3) := cell_later' hb1 (by simp [World.cell?_alloc_at])
  have k1 : w1.cell? ⟨w.heap.size + 1, 1, none⟩ = some (.int .i64 cp) := cell_later' hb1 (by simp [World.cell?_alloc_at])
  have k2 : w1.cell? ⟨w.heap.size + 1, 2, none⟩ = some (.int .i64 cm) := cell_later' hb1 (by simp [World.cell?_alloc_at])
  have g2 : w1.cell? ⟨w.heap.size, 2, none⟩ = some (.int .i64 g.leaves) := cell_later' hb1 (by simp [World.cell?_alloc_at, World.cell?_alloc_past])
  clear hb1 q0 q1 q2
  go_wp2_with fail
  go_quiet (fail)
  go_wp2_with fail
  refine (refIn_any cm 1 4 _).mono ?_
  rintro e w2 ⟨rfl, hb2⟩
  have hb2' : Below w1.heap.size w1 w2 := Below.trans (by exact bdrewN (Below.refl _ _) _) (hb2.mono (by exact Nat.le_refl _))
  have k1 := cell_later' hb2' k1
  have g2 := cell_later' hb2' g2
  have hb0 := hb0.trans (hb2'.mono hb0.size)
  clear k0 k2 hb2' hb2
  cases hm : inB 1 4 cm with
  | false =>
    go_wp2_with fail
    refine (refIn_any cp 0 g.leaves _).mono ?_
    rintro e w3 ⟨rfl, hb3⟩
    have hb0 := hb0.trans (hb3.mono hb0.size)
    clear hb3
    cases hp : inB 0 g.leaves cp with
    | false =>
      go_wp2_with fail
      go_ret
      exact ⟨rfl, hb0⟩
    | true =>
      go_wp2_with fail
      go_ret
      exact ⟨rfl, hb0⟩
  | true =>
    have hp : inB 0 g.leaves cp = false := by simpa [hm] using hr
    go_wp2_with fail
    refine (refIn_any cp 0 g.leaves _).mono ?_
    rintro e w3 ⟨rfl, hb3⟩
    have hb0 := hb0.trans (hb3.mono hb0.size)
    clear hb3
    rw [hp]
    go_wp2_with fail
    go_ret
    exact ⟨rfl, hb0⟩

set_option maxRecDepth 100000 in
set_option maxHeartbeats 400000 in
theorem refChange_two (g : Gth) (a : Option Addr) (n cap : Nat) (i : Nat) (ck cp cm : Int) (w : World) (hch : ChsAt w.heap.size w (.slice a n cap) g.chs) (hi : g.chs[i]? = some ⟨ck, cp, cm⟩) (hn : g.chs.length ≤ 100) (hk : inB 1 3 ck = true) (h3 : (ck == 3) = false) (hr : (inB 1 g.leaves cp && decide (cm = 0)) = false) :
    Calls Tryz.prog 85 #[.agg #[.int .i64 g.round, .int .i64 g.letter, .int .i64 g.leaves, .slice a n cap], .int .i64 i] w fun e w' => e = .returned (.int .i64 7) ∧ Below w.heap.size w w' := by
  by_cases hm : cm = 0
  · subst hm
    have hp : inB 1 g.leaves cp = false := by simpa using hr
    obtain ⟨a', cap', hav, hcell⟩ := hch
    simp only [Value.slice.injEq] at hav
    obtain ⟨rfl, rfl, rfl⟩ := hav
    have hlt := (List.getElem?_eq_some_iff.1 hi).1
    obtain ⟨b, off, rfl, hb, hcell⟩ := hcell (fun e => by rw [e] at hlt; simp at hlt)
    have HC := Lib.hid hcell
    obtain ⟨q0, q1, q2⟩ := hcell i _ hi
    have d2 : ((i : Int) < g.chs.length) := by omega
    clear hcell hi hlt
    go_enter Tryz.func85, Tryz.ntmps85
    go_wp2_with fail
    refine (refIn_any ck 1 3 _).mono ?_
    rintro e w1 ⟨rfl, hb1⟩
    rw [show inB 1 3 ck = true from hk]
    have hb0 : Below w.heap.size w w1 := Below.trans (by exact (by repeat (first | (refine Below.setCell ?_ ?_ _; rotate_left; · (first | omega | (simp; done) | (simp; omega) | fail)) | (refine Below.alloc ?_ ?_ _; rotate_left; · (first | omega | (simp; done) | (simp; omega) | fail)) | refine Below.drew ?_ | exact Below.refl _ _ | fail))) (hb1.mono (by simp; try omega))
    have k0 : w1.cell? ⟨w.heap.size + 1, 0, none⟩ = some (.int .i64 ck) := cell_later' hb1 (by simp [World.cell?_alloc_at])
    have k1 : w1.cell? ⟨w.heap.size + 1, 1, none⟩ = some (.int .i64 cp) := cell_later' hb1 (by simp [World.cell?_alloc_at])
    have k2 : w1.cell? ⟨w.heap.size + 1, 2, none⟩ = some (.int .i64 0) := cell_later' hb1 (by simp [World.cell?_alloc_at])
    have g2 : w1.cell? ⟨w.heap.size, 2, none⟩ = some (.int .i64 g.leaves) := cell_later' hb1 (by simp [World.cell?_alloc_at, World.cell?_alloc_past])
    have g3 : w1.cell? ⟨w.heap.size, 3, none⟩ = some (.slice (some ⟨b, off, none⟩) g.chs.length cap) := cell_later' hb1 (by simp [World.cell?_alloc_at, World.cell?_alloc_past])
    clear hb1 q0 q1 q2
    go_wp2_with fail
    go_quiet (fail)
    go_wp2_with fail
    refine (refIn_any cp 1 g.leaves _).mono ?_
    rintro e w2 ⟨rfl, hb2⟩
    rw [hp]
    have hb2' : Below w1.heap.size w1 w2 := Below.trans (by exact bdrewN (Below.refl _ _) _) (hb2.mono (by exact Nat.le_refl _))
    have hb0 := hb0.trans (hb2'.mono hb0.size)
    clear hb2 hb2'
    go_wp2_with fail
    go_ret
    exact ⟨rfl, hb0⟩
  · have hm0 : (cm == 0) = false := by simp [hm]
    clear hr
    obtain ⟨a', cap', hav, hcell⟩ := hch
    simp only [Value.slice.injEq] at hav
    obtain ⟨rfl, rfl, rfl⟩ := hav
    have hlt := (List.getElem?_eq_some_iff.1 hi).1
    obtain ⟨b, off, rfl, hb, hcell⟩ := hcell (fun e => by rw [e] at hlt; simp at hlt)
    have HC := Lib.hid hcell
    obtain ⟨q0, q1, q2⟩ := hcell i _ hi
    have d2 : ((i : Int) < g.chs.length) := by omega
    clear hcell hi hlt
    go_enter Tryz.func85, Tryz.ntmps85
    go_wp2_with fail
    refine (refIn_any ck 1 3 _).mono ?_
    rintro e w1 ⟨rfl, hb1⟩
    rw [show inB 1 3 ck = true from hk]
    have hb0 : Below w.heap.size w w1 := Below.trans (by exact (by repeat (first | (refine Below.setCell ?_ ?_ _; rotate_left; · (first | omega | (simp; done) | (simp; omega) | fail)) | (refine Below.alloc ?_ ?_ _; rotate_left; · (first | omega | (simp; done) | (simp; omega) | fail)) | refine Below.drew ?_ | exact Below.refl _ _ | fail))) (hb1.mono (by simp; try omega))
    have k0 : w1.cell? ⟨w.heap.size + 1, 0, none⟩ = some (.int .i64 ck) := cell_later' hb1 (by simp [World.cell?_alloc_at])
    have k1 : w1.cell? ⟨w.heap.size + 1, 1, none⟩ = some (.int .i64 cp) := cell_later' hb1 (by simp [World.cell?_alloc_at])
    have k2 : w1.cell? ⟨w.heap.size + 1, 2, none⟩ = some (.int .i64 cm) := cell_later' hb1 (by simp [World.cell?_alloc_at])
    have g2 : w1.cell? ⟨w.heap.size, 2, none⟩ = some (.int .i64 g.leaves) := cell_later' hb1 (by simp [World.cell?_alloc_at, World.cell?_alloc_past])
    have g3 : w1.cell? ⟨w.heap.size, 3, none⟩ = some (.slice (some ⟨b, off, none⟩) g.chs.length cap) := cell_later' hb1 (by simp [World.cell?_alloc_at, World.cell?_alloc_past])
    clear hb1 q0 q1 q2
    go_wp2_with fail
    go_quiet (fail)
    go_wp2_with fail
    refine (refIn_any cp 1 g.leaves _).mono ?_
    rintro e w2 ⟨rfl, hb2⟩
    have hb2' : Below w1.heap.size w1 w2 := Below.trans (by exact bdrewN (Below.refl _ _) _) (hb2.mono (by exact Nat.le_refl _))
    have hb0 := hb0.trans (hb2'.mono hb0.size)
    clear hb2 hb2'
    cases hp : inB 1 g.leaves cp with
    | false =>
      go_wp2_with fail
      go_ret
      exact ⟨rfl, hb0⟩
    | true =>
      go_wp2_with fail
      go_ret
      exact ⟨rfl, hb0⟩

set_option maxRecDepth 100000 in
set_option maxHeartbeats 800000 in
theorem refChange_good3 (g : Gth) (a : Option Addr) (n cap : Nat) (i : Nat) (cp cm : Int) (w : World) (hch : ChsAt w.heap.size w (.slice a n cap) g.chs) (hi : g.chs[i]? = some ⟨3, cp, cm⟩) (hn : g.chs.length ≤ 100) (hp : inB 0 g.leaves cp = true) (hm : inB 1 4 cm = true) (v : Int)
    (hpv : (i = 0 ∧ v = 0) ∨ ∃ j p, i = j + 1 ∧ g.chs[j]? = some p ∧ v = if cp < p.pos ∨ (cp = p.pos ∧ ((3 : Int) ≠ 3 ∨ p.kind = 3)) then 2 else 0) :
    Calls Tryz.prog 85 #[.agg #[.int .i64 g.round, .int .i64 g.letter, .int .i64 g.leaves, .slice a n cap], .int .i64 i] w fun e w' => e = .returned (.int .i64 v) ∧ Below w.heap.size w w' := by
  obtain ⟨a', cap', hav, hcell⟩ := hch
  simp only [Value.slice.injEq] at hav
  obtain ⟨rfl, rfl, rfl⟩ := hav
  have hlt := (List.getElem?_eq_some_iff.1 hi).1
  obtain ⟨b, off, rfl, hb, hcell⟩ := hcell (fun e => by rw [e] at hlt; simp at hlt)
  have HC := Lib.hid hcell
  obtain ⟨q0, q1, q2⟩ := hcell i _ hi
  have d2 : ((i : Int) < g.chs.length) := by omega
  clear hcell hi hlt
  go_enter Tryz.func85, Tryz.ntmps85
  go_wp2_with fail
  refine (refIn_any 3 1 3 _).mono ?_
  rintro e w1 ⟨rfl, hb1⟩
  rw [show inB 1 3 3 = true from rfl]
  have hb0 : Below w.heap.size w w1 := Below.trans (by exact (by repeat (first | (refine Below.setCell ?_ ?_ _; rotate_left; · (first | omega | (simp; done) | (simp; omega) | fail)) | (refine Below.alloc ?_ ?_ _; rotate_left; · (first | omega | (simp; done) | (simp; omega) | fail)) | refine Below.drew ?_ | exact Below.refl _ _ | fail))) (hb1.mono (by simp; try omega))
  have k0 : w1.cell? ⟨w.heap.size + 1, 0, none⟩ = some (.int .i64 3) := cell_later' hb1 (by simp [World.cell?_alloc_at])
  have k1 : w1.cell? ⟨w.heap.size + 1, 1, none⟩ = some (.int .i64 cp) := cell_later' hb1 (by simp [World.cell?_alloc_at])
  have k2 : w1.cell? ⟨w.heap.size + 1, 2, none⟩ = some (.int .i64 cm) := cell_later' hb1 (by simp [World.cell?_alloc_at])
  have g2 : w1.cell? ⟨w.heap.size, 2, none⟩ = some (.int .i64 g.leaves) := cell_later' hb1 (by simp [World.cell?_alloc_at, World.cell?_alloc_past])
  have g3 : w1.cell? ⟨w.heap.size, 3, none⟩ = some (.slice (some ⟨b, off, none⟩) g.chs.length cap) := cell_later' hb1 (by simp [World.cell?_alloc_at, World.cell?_alloc_past])
  clear hb1 q0 q1 q2
  go_wp2_with fail
  go_quiet (fail)
  go_wp2_with fail
  refine (refIn_any cm 1 4 _).mono ?_
  rintro e w2 ⟨rfl, hb2⟩
  rw [hm]
  have hb2' : Below w1.heap.size w1 w2 := Below.trans (by exact bdrewN (Below.refl _ _) _) (hb2.mono (by exact Nat.le_refl _))
  have k0 := cell_later' hb2' k0
  have k1 := cell_later' hb2' k1
  have g2 := cell_later' hb2' g2
  have g3 := cell_later' hb2' g3
  have hb0 := hb0.trans (hb2'.mono hb0.size)
  clear k2 hb2' hb2
  go_wp2_with fail
  refine (refIn_any cp 0 g.leaves _).mono ?_
  rintro e w3 ⟨rfl, hb3⟩
  rw [hp]
  have k0 := cell_later' hb3 k0
  have k1 := cell_later' hb3 k1
  have g2 := cell_later' hb3 g2
  have g3 := cell_later' hb3 g3
  have hb0 := hb0.trans (hb3.mono hb0.size)
  clear hb3
  rcases hpv with ⟨rfl, hv⟩ | ⟨j, p, rfl, hj, hv⟩
  · go_wp2_with fail
    go_ret
    exact ⟨by rw [hv]; rfl, hb0⟩
  · obtain ⟨q0, q1, q2⟩ := HC.out j p hj
    have q0 := cell_later' hb0 q0
    have q1 := cell_later' hb0 q1
    have q2 := cell_later' hb0 q2
    have HB := Lib.hid hb0
    have HV := Lib.hid hv
    have hz := hb0.size
    have hz1 := lt_of_cell k1
    have d0 : ((((j + 1 : Nat) : Int)) == 0) = false := by simp; omega
    have d1 : IntKind.i64.wrap (((j + 1 : Nat) : Int) - 1) = j := by rw [IntKind.wrap_i64]; omega
    have d3 : ((j : Int) < g.chs.length) := by omega
    clear hb0 hj HC hv
    by_cases h1 : cp < p.pos
    · have e1 : decide (cp < p.pos) = true := decide_eq_true h1
      have HV' := Lib.hid (HV.out.trans (if_pos (Or.inl h1)))
      clear h1 HV
      go_wp2_with fail
      go_ret
      exact ⟨by rw [HV'.out]; rfl, (by repeat (first | (refine Below.setCell ?_ ?_ _; rotate_left; · (first | omega | (simp; done) | (simp; omega) | fail)) | (refine Below.alloc ?_ ?_ _; rotate_left; · (first | omega | (simp; done) | (simp; omega) | fail)) | refine Below.drew ?_ | exact HB.out | fail))⟩
    · have e1 : decide (cp < p.pos) = false := decide_eq_false h1
      by_cases h2 : cp = p.pos
      · have e2 : (cp == p.pos) = true := by simp [h2]
        by_cases h3 : p.kind = 3
        · have e3 : (p.kind == 3) = true := by simp [h3]
          have HV' := Lib.hid (HV.out.trans (if_pos (Or.inr ⟨h2, Or.inr h3⟩)))
          clear h1 h2 h3 HV
          go_wp2_with fail
          go_ret
          exact ⟨by rw [HV'.out]; rfl, (by repeat (first | (refine Below.setCell ?_ ?_ _; rotate_left; · (first | omega | (simp; done) | (simp; omega) | fail)) | (refine Below.alloc ?_ ?_ _; rotate_left; · (first | omega | (simp; done) | (simp; omega) | fail)) | refine Below.drew ?_ | exact HB.out | fail))⟩
        · have e3 : (p.kind == 3) = false := by simp [h3]
          have HV' := Lib.hid (HV.out.trans (if_neg (fun h => h.elim h1 (fun h => h.2.elim (fun f => f rfl) h3))))
          clear h1 h2 h3 HV
          go_wp2_with fail
          go_ret
          exact ⟨by rw [HV'.out]; rfl, (by repeat (first | (refine Below.setCell ?_ ?_ _; rotate_left; · (first | omega | (simp; done) | (simp; omega) | fail)) | (refine Below.alloc ?_ ?_ _; rotate_left; · (first | omega | (simp; done) | (simp; omega) | fail)) | refine Below.drew ?_ | exact HB.out | fail))⟩
      · have e2 : (cp == p.pos) = false := by simp [h2]
        have HV' := Lib.hid (HV.out.trans (if_neg (fun h => h.elim h1 (fun h => h2 h.1))))
        clear h1 h2 HV
        go_wp2_with fail
        go_ret
        exact ⟨by rw [HV'.out]; rfl, (by repeat (first | (refine Below.setCell ?_ ?_ _; rotate_left; · (first | omega | (simp; done) | (simp; omega) | fail)) | (refine Below.alloc ?_ ?_ _; rotate_left; · (first | omega | (simp; done) | (simp; omega) | fail)) | refine Below.drew ?_ | exact HB.out | fail))⟩

set_option maxRecDepth 100000 in
set_option maxHeartbeats 800000 in
theorem refChange_goodN (g : Gth) (a : Option Addr) (n cap : Nat) (i : Nat) (ck cp : Int) (w : World) (hch : ChsAt w.heap.size w (.slice a n cap) g.chs) (hi : g.chs[i]? = some ⟨ck, cp, 0⟩) (hn : g.chs.length ≤ 100) (hk : inB 1 3 ck = true) (h3 : (ck == 3) = false) (hp : inB 1 g.leaves cp = true) (v : Int)
    (hpv : (i = 0 ∧ v = 0) ∨ ∃ j p, i = j + 1 ∧ g.chs[j]? = some p ∧ v = if cp < p.pos ∨ (cp = p.pos ∧ (ck ≠ 3 ∨ p.kind = 3)) then 2 else 0) :
    Calls Tryz.prog 85 #[.agg #[.int .i64 g.round, .int .i64 g.letter, .int .i64 g.leaves, .slice a n cap], .int .i64 i] w fun e w' => e = .returned (.int .i64 v) ∧ Below w.heap.size w w' := by
  obtain ⟨a', cap', hav, hcell⟩ := hch
  simp only [Value.slice.injEq] at hav
  obtain ⟨rfl, rfl, rfl⟩ := hav
  have hlt := (List.getElem?_eq_some_iff.1 hi).1
  obtain ⟨b, off, rfl, hb, hcell⟩ := hcell (fun e => by rw [e] at hlt; simp at hlt)
  have HC := Lib.hid hcell
  obtain ⟨q0, q1, q2⟩ := hcell i _ hi
  have d2 : ((i : Int) < g.chs.length) := by omega
  clear hcell hi hlt
  go_enter Tryz.func85, Tryz.ntmps85
  go_wp2_with fail
  refine (refIn_any ck 1 3 _).mono ?_
  rintro e w1 ⟨rfl, hb1⟩
  rw [show inB 1 3 ck = true from hk]
  have hb0 : Below w.heap.size w w1 := Below.trans (by exact (by repeat (first | (refine Below.setCell ?_ ?_ _; rotate_left; · (first | omega | (simp; done) | (simp; omega) | fail)) | (refine Below.alloc ?_ ?_ _; rotate_left; · (first | omega | (simp; done) | (simp; omega) | fail)) | refine Below.drew ?_ | exact Below.refl _ _ | fail))) (hb1.mono (by simp; try omega))
  have k0 : w1.cell? ⟨w.heap.size + 1, 0, none⟩ = some (.int .i64 ck) := cell_later' hb1 (by simp [World.cell?_alloc_at])
  have k1 : w1.cell? ⟨w.heap.size + 1, 1, none⟩ = some (.int .i64 cp) := cell_later' hb1 (by simp [World.cell?_alloc_at])
  have k2 : w1.cell? ⟨w.heap.size + 1, 2, none⟩ = some (.int .i64 0) := cell_later' hb1 (by simp [World.cell?_alloc_at])
  have g2 : w1.cell? ⟨w.heap.size, 2, none⟩ = some (.int .i64 g.leaves) := cell_later' hb1 (by simp [World.cell?_alloc_at, World.cell?_alloc_past])
  have g3 : w1.cell? ⟨w.heap.size, 3, none⟩ = some (.slice (some ⟨b, off, none⟩) g.chs.length cap) := cell_later' hb1 (by simp [World.cell?_alloc_at, World.cell?_alloc_past])
  clear hb1 q0 q1 q2
  go_wp2_with fail
  go_quiet (fail)
  go_wp2_with fail
  refine (refIn_any cp 1 g.leaves _).mono ?_
  rintro e w2 ⟨rfl, hb2⟩
  rw [hp]
  have hb2' : Below w1.heap.size w1 w2 := Below.trans (by exact bdrewN (Below.refl _ _) _) (hb2.mono (by exact Nat.le_refl _))
  have k0 := cell_later' hb2' k0
  have k1 := cell_later' hb2' k1
  have g2 := cell_later' hb2' g2
  have g3 := cell_later' hb2' g3
  have hb0 := hb0.trans (hb2'.mono hb0.size)
  clear k2 hb2' hb2
  rcases hpv with ⟨rfl, hv⟩ | ⟨j, p, rfl, hj, hv⟩
  · go_wp2_with fail
    go_ret
    exact ⟨by rw [hv]; rfl, hb0⟩
  · obtain ⟨q0, q1, q2⟩ := HC.out j p hj
    have q0 := cell_later' hb0 q0
    have q1 := cell_later' hb0 q1
    have q2 := cell_later' hb0 q2
    have HB := Lib.hid hb0
    have HV := Lib.hid hv
    have hz := hb0.size
    have hz1 := lt_of_cell k1
    have d0 : ((((j + 1 : Nat) : Int)) == 0) = false := by simp; omega
    have d1 : IntKind.i64.wrap (((j + 1 : Nat) : Int) - 1) = j := by rw [IntKind.wrap_i64]; omega
    have d3 : ((j : Int) < g.chs.length) := by omega
    clear hb0 hj HC hv
    by_cases h1 : cp < p.pos
    · have e1 : decide (cp < p.pos) = true := decide_eq_true h1
      have HV' := Lib.hid (HV.out.trans (if_pos (Or.inl h1)))
      clear h1 HV
      go_wp2_with fail
      go_ret
      exact ⟨by rw [HV'.out]; rfl, (by repeat (first | (refine Below.setCell ?_ ?_ _; rotate_left; · (first | omega | (simp; done) | (simp; omega) | fail)) | (refine Below.alloc ?_ ?_ _; rotate_left; · (first | omega | (simp; done) | (simp; omega) | fail)) | refine Below.drew ?_ | exact HB.out | fail))⟩
    · have e1 : decide (cp < p.pos) = false := decide_eq_false h1
      by_cases h2 : cp = p.pos
      · have e2 : (cp == p.pos) = true := by simp [h2]
        have HV' := Lib.hid (HV.out.trans (if_pos (Or.inr ⟨h2, Or.inl (by simpa using h3)⟩)))
        clear h1 h2 HV
        go_wp2_with fail
        go_ret
        exact ⟨by rw [HV'.out]; rfl, (by repeat (first | (refine Below.setCell ?_ ?_ _; rotate_left; · (first | omega | (simp; done) | (simp; omega) | fail)) | (refine Below.alloc ?_ ?_ _; rotate_left; · (first | omega | (simp; done) | (simp; omega) | fail)) | refine Below.drew ?_ | exact HB.out | fail))⟩
      · have e2 : (cp == p.pos) = false := by simp [h2]
        have HV' := Lib.hid (HV.out.trans (if_neg (fun h => h.elim h1 (fun h => h2 h.1))))
        clear h1 h2 HV
        go_wp2_with fail
        go_ret
        exact ⟨by rw [HV'.out]; rfl, (by repeat (first | (refine Below.setCell ?_ ?_ _; rotate_left; · (first | omega | (simp; done) | (simp; omega) | fail)) | (refine Below.alloc ?_ ?_ _; rotate_left; · (first | omega | (simp; done) | (simp; omega) | fail)) | refine Below.drew ?_ | exact HB.out | fail))⟩

/-- THE ERROR OF A CHANGE. -/
theorem refChange_any (g : Gth) (a : Option Addr) (n cap : Nat) (i : Nat) (c : Chg) (prev : Option Chg) (w : World) (hch : ChsAt w.heap.size w (.slice a n cap) g.chs) (hi : g.chs[i]? = some c) (hn : g.chs.length ≤ 100)
    (hpv : (i = 0 ∧ prev = none) ∨ ∃ j p, i = j + 1 ∧ g.chs[j]? = some p ∧ prev = some p) :
    Calls Tryz.prog 85 #[.agg #[.int .i64 g.round, .int .i64 g.letter, .int .i64 g.leaves, .slice a n cap], .int .i64 i] w fun e w' => e = .returned (.int .i64 (refCh g.leaves prev c)) ∧ Below w.heap.size w w' := by
  by_cases hk : inB 1 3 c.kind = false
  · have e : refCh g.leaves prev c = 6 := if_pos hk
    rw [e]
    exact refChange_bad g a n cap i c prev w hch hi hn hk
  have hk' : inB 1 3 c.kind = true := by simpa using hk
  obtain ⟨ck, cp, cm⟩ := c
  dsimp only at hk hk'
  by_cases hr : (inB (if ck = 3 then 0 else 1) g.leaves cp && (if ck = 3 then inB 1 4 cm else decide (cm = 0))) = false
  · have e : refCh g.leaves prev ⟨ck, cp, cm⟩ = 7 := by
      unfold refCh
      rw [if_neg hk, if_pos hr]
    rw [e]
    by_cases h3 : ck = 3
    · subst h3
      exact refChange_three g a n cap i cp cm w hch hi hn (by rw [if_pos rfl, if_pos rfl] at hr; exact hr)
    · exact refChange_two g a n cap i ck cp cm w hch hi hn hk' (by simp [h3]) (by simpa [h3] using hr)
  have hr' : (inB (if ck = 3 then 0 else 1) g.leaves cp && (if ck = 3 then inB 1 4 cm else decide (cm = 0))) = true := by rw [Bool.not_eq_false] at hr; exact hr
  have e : ∀ p, refCh g.leaves (some p) ⟨ck, cp, cm⟩ = if cp < p.pos ∨ (cp = p.pos ∧ (ck ≠ 3 ∨ p.kind = 3)) then 2 else 0 := fun p => by
    unfold refCh
    rw [if_neg hk, if_neg hr]
  have e0 : refCh g.leaves none ⟨ck, cp, cm⟩ = 0 := by
    unfold refCh
    rw [if_neg hk, if_neg hr]
  have hv : (i = 0 ∧ refCh g.leaves prev ⟨ck, cp, cm⟩ = 0) ∨ ∃ j p, i = j + 1 ∧ g.chs[j]? = some p ∧ refCh g.leaves prev ⟨ck, cp, cm⟩ = if cp < p.pos ∨ (cp = p.pos ∧ (ck ≠ 3 ∨ p.kind = 3)) then 2 else 0 := by
    rcases hpv with ⟨h1, rfl⟩ | ⟨j, p, h1, h2, rfl⟩
    · exact Or.inl ⟨h1, e0⟩
    · exact Or.inr ⟨j, p, h1, h2, e p⟩
  by_cases h3 : ck = 3
  · subst h3
    simp only [if_true, Bool.and_eq_true] at hr'
    exact refChange_good3 g a n cap i cp cm w hch hi hn hr'.1 hr'.2 _ hv
  · simp only [h3, if_false, Bool.and_eq_true, decide_eq_true_eq] at hr'
    obtain ⟨hr1, rfl⟩ := hr'
    exact refChange_goodN g a n cap i ck cp w hch hi hn hk' (by simp [h3]) hr1 _ hv
end Go.Proofs.YtlfglbnbenaghaaGreatDoor
