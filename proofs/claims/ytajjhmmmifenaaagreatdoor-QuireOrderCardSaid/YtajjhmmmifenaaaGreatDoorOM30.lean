/- The parts Pf of the proof, joined. It holds without conditions of its own. -/
import Derived.Test.YtajjhmmmifenaaaGreatDoorOM23
/- How many leaves a book has. Nothing of the program. -/
namespace Go.Proofs.YtajjhmmmifenaaaGreatDoor
set_option linter.unusedSimpArgs false
set_option linter.unusedVariables false

theorem snoc_rec {α : Type} {motive : List α → Prop} (nil : motive []) (snoc : ∀ xs x, motive xs → motive (xs ++ [x])) (xs : List α) : motive xs := by
  have h : ∀ ys : List α, motive ys.reverse := fun ys => by
    induction ys with
    | nil => exact nil
    | cons y ys ih => rw [List.reverse_cons]; exact snoc _ _ ih
  rw [← List.reverse_reverse xs]
  exact h _
def sumR (f : Nat → Int) : Nat → Int
  | 0 => 0
  | n + 1 => sumR f n + f n
theorem sumR_congr {f g : Nat → Int} : ∀ {n : Nat}, (∀ k, k < n → f k = g k) → sumR f n = sumR g n
  | 0, _ => rfl
  | n + 1, h => by
    unfold sumR
    rw [sumR_congr fun k hk => h k (by omega), h n (by omega)]
theorem sumR_one {f g : Nat → Int} {p : Nat} : ∀ {n : Nat}, p < n → (∀ k, k < n → k ≠ p → f k = g k) → sumR f n = sumR g n + (f p - g p)
  | 0, h, _ => by omega
  | n + 1, hp, h => by
    unfold sumR
    by_cases e : p = n
    · subst e
      rw [sumR_congr (f := f) (g := g) fun k hk => h k (by omega) (by omega)]
      omega
    · rw [sumR_one (p := p) (n := n) (by omega) fun k hk hne => h k (by omega) hne, h n (by omega) (fun e' => e e'.symm)]
      omega
theorem flat_len {α : Type} (f : Nat → List α) : ∀ n : Nat, (((List.range n).flatMap f).length : Int) = sumR (fun k => (f k).length) n
  | 0 => by simp [sumR]
  | n + 1 => by
    rw [List.range_succ, List.flatMap_append, List.length_append]
    unfold sumR
    rw [← flat_len f n]
    simp
/-- How many leaves are at a number. -/
def cntF (k : Nat) (f : Fate) : Int := (if 0 < k ∧ f.gone = false then 1 else 0) + f.added
theorem cnt_is {i k : Nat} {f : Fate} (h : 0 ≤ f.added) : ((lvsNum i k f).length : Int) = cntF k f := by
  unfold lvsNum cntF
  rw [List.length_append, List.length_map, List.length_range]
  split <;> simp <;> omega
/-- Changes in their order. -/
def ltC (b c : Chg) : Prop := b.pos < c.pos ∨ (b.pos = c.pos ∧ c.kind = 3 ∧ b.kind ≠ 3)
theorem ltC_trans {a b c : Chg} (h1 : ltC a b) (h2 : ltC b c) : ltC a c := by unfold ltC at *; omega
theorem order_lt {b c : Chg} (h : orderB b c = true) : ltC b c := by
  unfold orderB at h
  unfold ltC
  split at h
  · simp only [Bool.and_eq_true, decide_eq_true_eq] at h
    omega
  · simp only [decide_eq_true_eq] at h
    omega
theorem chs_sorted : ∀ (cs : List Chg) (l : Int) (p : Option Chg) (i : Nat), (chsErr l p i cs).2 = 0 → cs.Pairwise ltC ∧ ∀ q, p = some q → ∀ c ∈ cs, ltC q c
  | [], _, _, _, _ => ⟨List.Pairwise.nil, fun _ _ _ h => by cases h⟩
  | x :: xs, l, p, i, h => by
    unfold chsErr at h
    by_cases h0 : chErr l p x = 0
    · rw [if_pos h0] at h
      obtain ⟨h1, h2⟩ := chs_sorted xs l (some x) (i + 1) h
      refine ⟨List.pairwise_cons.2 ⟨fun c hc => h2 x rfl c hc, h1⟩, fun q hq c hc => ?_⟩
      subst hq
      have hqx : ltC q x := by
        unfold chErr at h0
        by_cases hk : kindB x = false
        · rw [if_pos hk] at h0; omega
        rw [if_neg hk] at h0
        by_cases hr : rangeB x l = false
        · rw [if_pos hr] at h0; omega
        rw [if_neg hr] at h0
        dsimp only at h0
        by_cases ho : orderB q x = false
        · rw [if_pos ho] at h0; omega
        · exact order_lt (by simpa using ho)
      rcases List.mem_cons.1 hc with rfl | hc
      · exact hqx
      · exact ltC_trans hqx (h2 x rfl c hc)
    · rw [if_neg h0] at h; exact absurd h h0
/-- What a change adds to the leaves. -/
def addF (c : Chg) : Int := if c.kind = 1 then c.many - 1 else c.many
def sumC (cs : List Chg) : Int := (cs.map addF).sum
theorem fate_snoc (cs : List Chg) (c : Chg) (n : Int) : fateF (cs ++ [c]) n = fateStep n (fateF cs n) c := by unfold fateF; rw [List.foldl_append]; rfl
theorem fate_none : ∀ (cs : List Chg) (n : Int), (∀ c ∈ cs, c.pos ≠ n) → fateF cs n = ⟨false, false, 0⟩ := by
  intro cs
  induction cs using snoc_rec with
  | nil => intro n _; rfl
  | snoc cs c ih =>
    intro n h
    rw [fate_snoc, ih n fun x hx => h x (by simp [hx])]
    unfold fateStep
    rw [if_pos (h c (by simp))]
theorem fate_zero : ∀ (cs : List Chg) (n : Int), (∀ c ∈ cs, c.pos = n → c.kind ≠ 3) → (fateF cs n).added = 0 := by
  intro cs
  induction cs using snoc_rec with
  | nil => intro n _; rfl
  | snoc cs c ih =>
    intro n h
    have h1 := ih n fun x hx => h x (by simp [hx])
    rw [fate_snoc]
    unfold fateStep
    split
    · exact h1
    · rename_i hp
      have hk := h c (by simp) (by omega)
      split
      · exact h1
      · split
        · exact h1
        · first | exact h1 | (rw [if_neg hk]; exact h1)
theorem cnt_sum (n : Nat) : ∀ (cs : List Chg), cs.Pairwise ltC → (∀ c ∈ cs, (c.kind = 1 ∨ c.kind = 2 ∨ c.kind = 3) ∧ 0 ≤ c.pos ∧ c.pos ≤ n ∧ (c.kind ≠ 3 → 1 ≤ c.pos ∧ c.many = 0)) → sumR (fun k => cntF k (fateF cs k)) (n + 1) = n + sumC cs := by
  intro cs
  induction cs using snoc_rec with
  | nil =>
    intro _ _
    have : ∀ m : Nat, sumR (fun k => cntF k (fateF [] k)) (m + 1) = m := fun m => by
      induction m with
      | zero => simp [sumR, cntF, fateF]
      | succ m ih =>
        unfold sumR
        rw [ih]
        simp [cntF, fateF]
    rw [this n]
    simp [sumC]
  | snoc cs c ih =>
    intro hp hc
    rw [List.pairwise_append] at hp
    obtain ⟨hp1, -, hp2⟩ := hp
    obtain ⟨hk, h0, h1, h2⟩ := hc c (by simp)
    have hi := ih hp1 fun x hx => hc x (by simp [hx])
    have hlt : ∀ x ∈ cs, ltC x c := fun x hx => hp2 x hx c (by simp)
    have e1 : sumC (cs ++ [c]) = sumC cs + addF c := by simp [sumC]
    rw [e1, sumR_one (g := fun k => cntF k (fateF cs k)) (p := c.pos.toNat) (by omega) (fun k hkn hne => by
      try dsimp only
      rw [fate_snoc]
      unfold fateStep
      rw [if_pos (by omega)]), hi]
    try dsimp only
    rw [show ((c.pos.toNat : Nat) : Int) = c.pos by omega, fate_snoc]
    unfold fateStep
    rw [if_neg (by omega)]
    by_cases k1 : c.kind = 1
    · have hf := fate_none cs c.pos fun x hx e => by have := hlt x hx; unfold ltC at this; omega
      have h3 := h2 (by omega)
      rw [hf, if_pos k1]
      unfold cntF addF
      rw [if_pos k1]
      have : 0 < c.pos.toNat := by omega
      simp [this]
      omega
    by_cases k2 : c.kind = 2
    · have h3 := h2 (by omega)
      rw [if_neg k1, if_pos k2]
      unfold cntF addF
      rw [if_neg k1]
      dsimp only
      omega
    · have k3 : c.kind = 3 := by omega
      have hz := fate_zero cs c.pos fun x hx e => by have := hlt x hx; unfold ltC at this; omega
      rw [if_neg k1, if_neg k2, if_pos k3]
      unfold cntF addF
      rw [if_neg k1]
      dsimp only
      omega
theorem chs_facts {g : Gth} (h : GOk g) : g.chs.Pairwise ltC ∧ ∀ c ∈ g.chs, (c.kind = 1 ∨ c.kind = 2 ∨ c.kind = 3) ∧ 0 ≤ c.pos ∧ c.pos ≤ g.leaves.toNat ∧ (c.kind ≠ 3 → 1 ≤ c.pos ∧ c.many = 0) := by
  refine ⟨(chs_sorted _ _ _ _ h.chs).1, fun c hc => ?_⟩
  have hl := h.leaves
  obtain ⟨h1, h2, h3, h4, h5⟩ := h.ch hc
  refine ⟨h1, h2, by omega, fun hk => ?_⟩
  obtain ⟨_, hr⟩ := chsErr_zero h.chs c hc
  unfold rangeB at hr
  rw [if_neg hk] at hr
  simp only [Bool.and_eq_true, inB_iff, decide_eq_true_eq] at hr
  omega
theorem added_nonneg : ∀ (cs : List Chg) (n : Int), (∀ c ∈ cs, 0 ≤ c.many) → 0 ≤ (fateF cs n).added := by
  intro cs
  induction cs using snoc_rec with
  | nil => intro n _; simp [fateF]
  | snoc cs c ih =>
    intro n h
    have h1 := ih n fun x hx => h x (by simp [hx])
    rw [fate_snoc]
    unfold fateStep
    split
    · exact h1
    · split
      · exact h1
      · split
        · exact h1
        · split
          · exact h c (by simp)
          · exact h1
/-- HOW MANY LEAVES A GATHERING HAS. -/
theorem lvsG_count {i : Nat} {g : Gth} (h : GOk g) : ((lvsG i g).length : Int) = g.leaves + sumC g.chs := by
  have hl := h.leaves
  obtain ⟨h1, h2⟩ := chs_facts h
  have e : (g.leaves + 1).toNat = g.leaves.toNat + 1 := by omega
  unfold lvsG
  rw [e, flat_len, sumR_congr (g := fun k => cntF k (fateF g.chs k)) fun k _ => cnt_is (added_nonneg _ _ fun c hc => (h.ch hc).2.2.2.1), cnt_sum _ _ h1 h2]
  omega
def sumG (gs : List Gth) : Int := (gs.map fun g => g.leaves + sumC g.chs).sum
theorem lvsFrom_count : ∀ (gs : List Gth) (i : Nat), (∀ g ∈ gs, GOk g) → ((lvsFrom i gs).length : Int) = sumG gs
  | [], _, _ => rfl
  | g :: gs, i, h => by
    unfold lvsFrom sumG
    rw [List.length_append, List.map_cons, List.sum_cons]
    have h1 := lvsG_count (i := i) (h g (by simp))
    have h2 := lvsFrom_count gs (i + 1) fun x hx => h x (by simp [hx])
    unfold sumG at h2
    omega
end Go.Proofs.YtajjhmmmifenaaaGreatDoor
