/- The parts Pd, Pf, Cj, Cc of the proof, joined. It holds without conditions of its own. -/
import Derived.Test.YtimdmgkegdlafaaGreatDoorCH2
import Derived.Test.YtimdmgkegdlafaaGreatDoorCH17
import Derived.Test.YtimdmgkegdlafaaGreatDoorCH26
import Derived.Test.YtimdmgkegdlafaaGreatDoorCH1
/- Plain facts of signed leaves, and of a book with its first gatherings alone. -/
namespace Go.Proofs.YtimdmgkegdlafaaGreatDoor
set_option linter.unusedSimpArgs false
set_option linter.unusedVariables false

theorem signs_mem {b : Bk} {t : Nat} : t ∈ signsF b ↔ ∃ x, (lvs b)[t]? = some x ∧ signedL b x = true := by
  unfold signsF signsOf
  simp only [List.mem_map, List.mem_filter]
  constructor
  · rintro ⟨⟨x, i⟩, ⟨h1, h2⟩, rfl⟩
    exact ⟨x, List.mem_zipIdx_iff_getElem?.1 h1, h2⟩
  · rintro ⟨x, h1, h2⟩
    exact ⟨(x, t), ⟨List.mem_zipIdx_iff_getElem?.2 h1, h2⟩, rfl⟩
theorem signs_sorted (b : Bk) : (signsF b).Pairwise (· < ·) := by
  unfold signsF signsOf
  rw [List.pairwise_map]
  have h : ((lvs b).zipIdx).Pairwise (fun x y => x.2 < y.2) := by
    rw [← List.pairwise_map (f := Prod.snd) (R := (· < ·)), List.zipIdx_map_snd]
    exact List.pairwise_lt_range'
  exact h.sublist List.filter_sublist
theorem lvs_plus {b : Bk} {x : Lf} (h : x ∈ lvs b) (hk : x.kind ≠ 2) : x.plus = 0 := by
  obtain ⟨g, _, hm⟩ := lvs_mem h
  simp only [lvsG, List.mem_flatMap] at hm
  obtain ⟨k, _, hm⟩ := hm
  simp only [lvsNum, List.mem_append, List.mem_map] at hm
  rcases hm with hm | ⟨j, _, hm⟩
  · split at hm
    · rw [List.mem_singleton] at hm
      exact congrArg Lf.plus hm
    · cases hm
  · exact absurd (congrArg Lf.kind hm).symm hk
theorem signed_is {b : Bk} {x : Lf} (h : signedL b x = true) : ∃ g, b.gs[x.gat]? = some g ∧ g.letter < 23 ∧ x.kind ≠ 2 ∧ x.num ≤ b.signed := by
  unfold signedL at h
  split at h
  · rename_i g hg
    simp only [signedB, Bool.and_eq_true, decide_eq_true_eq, bne_iff_ne] at h
    exact ⟨g, hg, h.1.1, h.1.2, h.2⟩
  · cases h
theorem signed_great {b : Bk} {s : Int} {x : Lf} (hs : b.signed ≤ s) (h : signedL b x = true) : signedL ⟨s, b.gs⟩ x = true := by
  obtain ⟨g, h1, h2, h3, h4⟩ := signed_is h
  unfold signedL
  dsimp only
  rw [h1]
  simp only [signedB, Bool.and_eq_true, decide_eq_true_eq, bne_iff_ne]
  exact ⟨⟨h2, h3⟩, by omega⟩
theorem lvs_gs (s : Int) (b : Bk) : lvs ⟨s, b.gs⟩ = lvs b := rfl
theorem signs_great {b : Bk} {s : Int} (hs : b.signed ≤ s) {t : Nat} (h : t ∈ signsF b) : t ∈ signsF ⟨s, b.gs⟩ := by
  obtain ⟨x, h1, h2⟩ := signs_mem.1 h
  exact signs_mem.2 ⟨x, by rw [lvs_gs]; exact h1, signed_great hs h2⟩
theorem err_is {b : Bk} (h : errF b = 0) : inB 0 12 b.signed = true ∧ inB 1 30 b.gs.length = true ∧ (gsErr [] (0, 0) 0 b.gs).2 = 0 := by
  unfold errF checkF at h
  by_cases h1 : inB 0 12 b.signed = false
  · rw [if_pos h1] at h; simp at h
  rw [if_neg h1] at h
  by_cases h2 : inB 1 30 b.gs.length = false
  · rw [if_pos h2] at h; simp at h
  rw [if_neg h2] at h
  by_cases h3 : (gsErr [] (0, 0) 0 b.gs).2 = 0
  · exact ⟨by simpa using h1, by simpa using h2, h3⟩
  · rw [if_neg h3] at h; exact absurd h h3
theorem err_of {b : Bk} (h1 : inB 0 12 b.signed = true) (h2 : inB 1 30 b.gs.length = true) (h3 : (gsErr [] (0, 0) 0 b.gs).2 = 0) : errF b = 0 := by
  unfold errF checkF
  rw [if_neg (by rw [h1]; decide), if_neg (by rw [h2]; decide), if_pos h3]
theorem err_great {b : Bk} {s : Int} (h : errF b = 0) (h0 : 0 ≤ s) (h1 : s ≤ 12) : errF ⟨s, b.gs⟩ = 0 := by
  obtain ⟨_, h3, h4⟩ := err_is h
  exact err_of (by rw [inB_iff]; exact ⟨h0, h1⟩) h3 h4
theorem gsErr_take : ∀ (gs : List Gth) (k : Nat) (seen : List (Int × Int)) (last : Int × Int) (i : Nat), (gsErr seen last i gs).2 = 0 → (gsErr seen last i (gs.take k)).2 = 0
  | [], k, _, _, _, _ => by simp [gsErr]
  | g :: gs, 0, _, _, _, _ => by simp [gsErr]
  | g :: gs, k + 1, seen, last, i, h => by
    rw [List.take_succ_cons]
    unfold gsErr at h ⊢
    by_cases h0 : gthErr seen last g = 0
    · rw [if_pos h0] at h ⊢
      exact gsErr_take gs k _ _ _ h
    · rw [if_neg h0] at h ⊢
      exact h
theorem err_take {b : Bk} {k : Nat} (h : errF b = 0) (h1 : 1 ≤ k) (h2 : k ≤ b.gs.length) : errF ⟨b.signed, b.gs.take k⟩ = 0 := by
  obtain ⟨h3, h4, h5⟩ := err_is h
  rw [inB_iff] at h4
  exact err_of h3 (by rw [inB_iff]; dsimp only; rw [List.length_take]; omega) (gsErr_take _ _ _ _ _ h5)
theorem lvs_part (b : Bk) (k : Nat) : ∃ rest, lvs b = lvs ⟨b.signed, b.gs.take k⟩ ++ rest := by
  refine ⟨lvsFrom (0 + (b.gs.take k).length) (b.gs.drop k), ?_⟩
  show lvsFrom 0 b.gs = lvsFrom 0 (b.gs.take k) ++ _
  rw [← lvsFrom_app, List.take_append_drop]
theorem names_part (b : Bk) (k : Nat) (rest : List Lf) (h : lvs b = lvs ⟨b.signed, b.gs.take k⟩ ++ rest) : namesF b = namesF ⟨b.signed, b.gs.take k⟩ ++ rest.map (nameQ b) := by
  unfold namesF
  rw [h, List.map_append]
  congr 1
  apply List.map_congr_left
  intro x hx
  obtain ⟨g, hg, _⟩ := lvs_mem hx
  dsimp only at hg
  have hg' := hg
  rw [List.getElem?_take] at hg'
  split at hg'
  · unfold nameQ
    dsimp only
    rw [hg, hg']
  · cases hg'
theorem diffAt_part : ∀ (xs ys : List Quad) (i : Nat), diffAt i xs (xs ++ ys) = if ys = [] then none else some (i + xs.length)
  | [], [], i => by simp [diffAt]
  | [], y :: ys, i => by simp [diffAt]
  | x :: xs, ys, i => by
    rw [List.cons_append, diffAt, if_pos rfl, diffAt_part xs ys (i + 1)]
    split
    · rfl
    · rw [List.length_cons]
      congr 1
      omega
end Go.Proofs.YtimdmgkegdlafaaGreatDoor

/- How many leaves a book has. Nothing of the program. -/
namespace Go.Proofs.YtimdmgkegdlafaaGreatDoor
set_option linter.unusedSimpArgs false
set_option linter.unusedVariables false

theorem snoc_rec {α : Type} {motive : List α → Prop} (nil : motive []) (snoc : ∀ xs x, motive xs → motive (xs ++ [x])) (xs : List α) : motive xs := by
  have h : ∀ ys : List α, motive ys.reverse := fun ys => by
    induction ys with
    | nil => exact nil
    | cons y ys ih => rw [List.reverse_cons]; exact snoc _ _ ih
  rw [← List.reverse_reverse xs]
  exact h _
def sumR (f : Nat → Int) : Nat → Int
  | 0 => 0
  | n + 1 => sumR f n + f n
theorem sumR_congr {f g : Nat → Int} : ∀ {n : Nat}, (∀ k, k < n → f k = g k) → sumR f n = sumR g n
  | 0, _ => rfl
  | n + 1, h => by
    unfold sumR
    rw [sumR_congr fun k hk => h k (by omega), h n (by omega)]
theorem sumR_one {f g : Nat → Int} {p : Nat} : ∀ {n : Nat}, p < n → (∀ k, k < n → k ≠ p → f k = g k) → sumR f n = sumR g n + (f p - g p)
  | 0, h, _ => by omega
  | n + 1, hp, h => by
    unfold sumR
    by_cases e : p = n
    · subst e
      rw [sumR_congr (f := f) (g := g) fun k hk => h k (by omega) (by omega)]
      omega
    · rw [sumR_one (p := p) (n := n) (by omega) fun k hk hne => h k (by omega) hne, h n (by omega) (fun e' => e e'.symm)]
      omega
theorem flat_len {α : Type} (f : Nat → List α) : ∀ n : Nat, (((List.range n).flatMap f).length : Int) = sumR (fun k => (f k).length) n
  | 0 => by simp [sumR]
  | n + 1 => by
    rw [List.range_succ, List.flatMap_append, List.length_append]
    unfold sumR
    rw [← flat_len f n]
    simp
/-- How many leaves are at a number. -/
def cntF (k : Nat) (f : Fate) : Int := (if 0 < k ∧ f.gone = false then 1 else 0) + f.added
theorem cnt_is {i k : Nat} {f : Fate} (h : 0 ≤ f.added) : ((lvsNum i k f).length : Int) = cntF k f := by
  unfold lvsNum cntF
  rw [List.length_append, List.length_map, List.length_range]
  split <;> simp <;> omega
/-- Changes in their order. -/
def ltC (b c : Chg) : Prop := b.pos < c.pos ∨ (b.pos = c.pos ∧ c.kind = 3 ∧ b.kind ≠ 3)
theorem ltC_trans {a b c : Chg} (h1 : ltC a b) (h2 : ltC b c) : ltC a c := by unfold ltC at *; omega
theorem order_lt {b c : Chg} (h : orderB b c = true) : ltC b c := by
  unfold orderB at h
  unfold ltC
  split at h
  · simp only [Bool.and_eq_true, decide_eq_true_eq] at h
    omega
  · simp only [decide_eq_true_eq] at h
    omega
theorem chs_sorted : ∀ (cs : List Chg) (l : Int) (p : Option Chg) (i : Nat), (chsErr l p i cs).2 = 0 → cs.Pairwise ltC ∧ ∀ q, p = some q → ∀ c ∈ cs, ltC q c
  | [], _, _, _, _ => ⟨List.Pairwise.nil, fun _ _ _ h => by cases h⟩
  | x :: xs, l, p, i, h => by
    unfold chsErr at h
    by_cases h0 : chErr l p x = 0
    · rw [if_pos h0] at h
      obtain ⟨h1, h2⟩ := chs_sorted xs l (some x) (i + 1) h
      refine ⟨List.pairwise_cons.2 ⟨fun c hc => h2 x rfl c hc, h1⟩, fun q hq c hc => ?_⟩
      subst hq
      have hqx : ltC q x := by
        unfold chErr at h0
        by_cases hk : kindB x = false
        · rw [if_pos hk] at h0; omega
        rw [if_neg hk] at h0
        by_cases hr : rangeB x l = false
        · rw [if_pos hr] at h0; omega
        rw [if_neg hr] at h0
        dsimp only at h0
        by_cases ho : orderB q x = false
        · rw [if_pos ho] at h0; omega
        · exact order_lt (by simpa using ho)
      rcases List.mem_cons.1 hc with rfl | hc
      · exact hqx
      · exact ltC_trans hqx (h2 x rfl c hc)
    · rw [if_neg h0] at h; exact absurd h h0
/-- What a change adds to the leaves. -/
def addF (c : Chg) : Int := if c.kind = 1 then c.many - 1 else c.many
def sumC (cs : List Chg) : Int := (cs.map addF).sum
theorem fate_snoc (cs : List Chg) (c : Chg) (n : Int) : fateF (cs ++ [c]) n = fateStep n (fateF cs n) c := by unfold fateF; rw [List.foldl_append]; rfl
theorem fate_none : ∀ (cs : List Chg) (n : Int), (∀ c ∈ cs, c.pos ≠ n) → fateF cs n = ⟨false, false, 0⟩ := by
  intro cs
  induction cs using snoc_rec with
  | nil => intro n _; rfl
  | snoc cs c ih =>
    intro n h
    rw [fate_snoc, ih n fun x hx => h x (by simp [hx])]
    unfold fateStep
    rw [if_pos (h c (by simp))]
theorem fate_zero : ∀ (cs : List Chg) (n : Int), (∀ c ∈ cs, c.pos = n → c.kind ≠ 3) → (fateF cs n).added = 0 := by
  intro cs
  induction cs using snoc_rec with
  | nil => intro n _; rfl
  | snoc cs c ih =>
    intro n h
    have h1 := ih n fun x hx => h x (by simp [hx])
    rw [fate_snoc]
    unfold fateStep
    split
    · exact h1
    · rename_i hp
      have hk := h c (by simp) (by omega)
      split
      · exact h1
      · split
        · exact h1
        · first | exact h1 | (rw [if_neg hk]; exact h1)
theorem cnt_sum (n : Nat) : ∀ (cs : List Chg), cs.Pairwise ltC → (∀ c ∈ cs, (c.kind = 1 ∨ c.kind = 2 ∨ c.kind = 3) ∧ 0 ≤ c.pos ∧ c.pos ≤ n ∧ (c.kind ≠ 3 → 1 ≤ c.pos ∧ c.many = 0)) → sumR (fun k => cntF k (fateF cs k)) (n + 1) = n + sumC cs := by
  intro cs
  induction cs using snoc_rec with
  | nil =>
    intro _ _
    have : ∀ m : Nat, sumR (fun k => cntF k (fateF [] k)) (m + 1) = m := fun m => by
      induction m with
      | zero => simp [sumR, cntF, fateF]
      | succ m ih =>
        unfold sumR
        rw [ih]
        simp [cntF, fateF]
    rw [this n]
    simp [sumC]
  | snoc cs c ih =>
    intro hp hc
    rw [List.pairwise_append] at hp
    obtain ⟨hp1, -, hp2⟩ := hp
    obtain ⟨hk, h0, h1, h2⟩ := hc c (by simp)
    have hi := ih hp1 fun x hx => hc x (by simp [hx])
    have hlt : ∀ x ∈ cs, ltC x c := fun x hx => hp2 x hx c (by simp)
    have e1 : sumC (cs ++ [c]) = sumC cs + addF c := by simp [sumC]
    rw [e1, sumR_one (g := fun k => cntF k (fateF cs k)) (p := c.pos.toNat) (by omega) (fun k hkn hne => by
      try dsimp only
      rw [fate_snoc]
      unfold fateStep
      rw [if_pos (by omega)]), hi]
    try dsimp only
    rw [show ((c.pos.toNat : Nat) : Int) = c.pos by omega, fate_snoc]
    unfold fateStep
    rw [if_neg (by omega)]
    by_cases k1 : c.kind = 1
    · have hf := fate_none cs c.pos fun x hx e => by have := hlt x hx; unfold ltC at this; omega
      have h3 := h2 (by omega)
      rw [hf, if_pos k1]
      unfold cntF addF
      rw [if_pos k1]
      have : 0 < c.pos.toNat := by omega
      simp [this]
      omega
    by_cases k2 : c.kind = 2
    · have h3 := h2 (by omega)
      rw [if_neg k1, if_pos k2]
      unfold cntF addF
      rw [if_neg k1]
      dsimp only
      omega
    · have k3 : c.kind = 3 := by omega
      have hz := fate_zero cs c.pos fun x hx e => by have := hlt x hx; unfold ltC at this; omega
      rw [if_neg k1, if_neg k2, if_pos k3]
      unfold cntF addF
      rw [if_neg k1]
      dsimp only
      omega
theorem chs_facts {g : Gth} (h : GOk g) : g.chs.Pairwise ltC ∧ ∀ c ∈ g.chs, (c.kind = 1 ∨ c.kind = 2 ∨ c.kind = 3) ∧ 0 ≤ c.pos ∧ c.pos ≤ g.leaves.toNat ∧ (c.kind ≠ 3 → 1 ≤ c.pos ∧ c.many = 0) := by
  refine ⟨(chs_sorted _ _ _ _ h.chs).1, fun c hc => ?_⟩
  have hl := h.leaves
  obtain ⟨h1, h2, h3, h4, h5⟩ := h.ch hc
  refine ⟨h1, h2, by omega, fun hk => ?_⟩
  obtain ⟨_, hr⟩ := chsErr_zero h.chs c hc
  unfold rangeB at hr
  rw [if_neg hk] at hr
  simp only [Bool.and_eq_true, inB_iff, decide_eq_true_eq] at hr
  omega
theorem added_nonneg : ∀ (cs : List Chg) (n : Int), (∀ c ∈ cs, 0 ≤ c.many) → 0 ≤ (fateF cs n).added := by
  intro cs
  induction cs using snoc_rec with
  | nil => intro n _; simp [fateF]
  | snoc cs c ih =>
    intro n h
    have h1 := ih n fun x hx => h x (by simp [hx])
    rw [fate_snoc]
    unfold fateStep
    split
    · exact h1
    · split
      · exact h1
      · split
        · exact h1
        · split
          · exact h c (by simp)
          · exact h1
/-- HOW MANY LEAVES A GATHERING HAS. -/
theorem lvsG_count {i : Nat} {g : Gth} (h : GOk g) : ((lvsG i g).length : Int) = g.leaves + sumC g.chs := by
  have hl := h.leaves
  obtain ⟨h1, h2⟩ := chs_facts h
  have e : (g.leaves + 1).toNat = g.leaves.toNat + 1 := by omega
  unfold lvsG
  rw [e, flat_len, sumR_congr (g := fun k => cntF k (fateF g.chs k)) fun k _ => cnt_is (added_nonneg _ _ fun c hc => (h.ch hc).2.2.2.1), cnt_sum _ _ h1 h2]
  omega
def sumG (gs : List Gth) : Int := (gs.map fun g => g.leaves + sumC g.chs).sum
theorem lvsFrom_count : ∀ (gs : List Gth) (i : Nat), (∀ g ∈ gs, GOk g) → ((lvsFrom i gs).length : Int) = sumG gs
  | [], _, _ => rfl
  | g :: gs, i, h => by
    unfold lvsFrom sumG
    rw [List.length_append, List.map_cons, List.sum_cons]
    have h1 := lvsG_count (i := i) (h g (by simp))
    have h2 := lvsFrom_count gs (i + 1) fun x hx => h x (by simp [hx])
    unfold sumG at h2
    omega
end Go.Proofs.YtimdmgkegdlafaaGreatDoor

/- The reference: what the changes of a gathering do at a number (plus); it says the same as fateF. -/
namespace Go.Proofs.YtimdmgkegdlafaaGreatDoor
set_option linter.unusedSimpArgs false
set_option linter.unusedVariables false
open Go Go.RowKit Go.Sort Go.BigFrame

def plusStep (n : Int) (p : Int × Int) (c : Chg) : Int × Int := if c.pos = n then (if c.kind = 3 then (c.many, p.2) else (p.1, c.kind)) else p
def plusG (cs : List Chg) (n : Int) : Int × Int := cs.foldl (plusStep n) (0, 0)
theorem plus_snoc (cs : List Chg) (c : Chg) (n : Int) : plusG (cs ++ [c]) n = plusStep n (plusG cs n) c := by unfold plusG; rw [List.foldl_append]; rfl
theorem plus_take {cs : List Chg} {k : Nat} {c : Chg} {n : Int} (h : cs[k]? = some c) : plusG (cs.take (k + 1)) n = plusStep n (plusG (cs.take k) n) c := by
  rw [List.take_add_one, h]
  exact plus_snoc _ _ _
theorem plus_none : ∀ (cs : List Chg) (n : Int), (∀ c ∈ cs, c.pos ≠ n) → plusG cs n = (0, 0) := by
  intro cs
  induction cs using snoc_rec with
  | nil => intro n _; rfl
  | snoc cs c ih =>
    intro n h
    rw [plus_snoc, ih n fun x hx => h x (by simp [hx])]
    unfold plusStep
    rw [if_neg (h c (by simp))]
/-- The kind that a fate has, as plus tells it. -/
def fateK (f : Fate) : Int := if f.gone then 1 else if f.swapped then 2 else 0
theorem plus_is : ∀ (cs : List Chg) (n : Int), cs.Pairwise ltC → (∀ c ∈ cs, c.kind = 1 ∨ c.kind = 2 ∨ c.kind = 3) → plusG cs n = ((fateF cs n).added, fateK (fateF cs n)) := by
  intro cs
  induction cs using snoc_rec with
  | nil => intro n _ _; rfl
  | snoc cs c ih =>
    intro n hp hk
    rw [List.pairwise_append] at hp
    obtain ⟨hp1, -, hp2⟩ := hp
    have hi := ih n hp1 fun x hx => hk x (by simp [hx])
    have hkc := hk c (by simp)
    have hlt : ∀ x ∈ cs, ltC x c := fun x hx => hp2 x hx c (by simp)
    rw [plus_snoc, fate_snoc]
    unfold plusStep fateStep
    by_cases hpos : c.pos = n
    · by_cases k3 : c.kind = 3
      · simp [hpos, k3, hi, fateK]
      · have h0 : ∀ x ∈ cs, x.pos ≠ n := fun x hx e => by
          have := hlt x hx
          unfold ltC at this
          omega
        have hf := fate_none cs n h0
        by_cases k1 : c.kind = 1
        · simp [hpos, k1, hi, hf, fateK]
        · have k2 : c.kind = 2 := by omega
          simp [hpos, k2, hi, hf, fateK]
    · simp [hpos, hi]

end Go.Proofs.YtimdmgkegdlafaaGreatDoor

/- The reference's error of a gathering, as plain Lean, and that it is the one of the program. -/
namespace Go.Proofs.YtimdmgkegdlafaaGreatDoor
set_option linter.unusedSimpArgs false
set_option linter.unusedVariables false

/-- The error of change i. -/
def refCh (leaves : Int) (prev : Option Chg) (c : Chg) : Int :=
  if inB 1 3 c.kind = false then 6
  else if (inB (if c.kind = 3 then 0 else 1) leaves c.pos && (if c.kind = 3 then inB 1 4 c.many else decide (c.many = 0))) = false then 7
  else match prev with
    | none => 0
    | some p => if c.pos < p.pos ∨ (c.pos = p.pos ∧ (c.kind ≠ 3 ∨ p.kind = 3)) then 2 else 0
theorem refCh_is (leaves : Int) (prev : Option Chg) (c : Chg) : refCh leaves prev c = chErr leaves prev c := by
  have hk : inB 1 3 c.kind = kindB c := by
    unfold inB kindB
    by_cases h1 : c.kind = 1
    · simp [h1]
    · by_cases h2 : c.kind = 2
      · simp [h2]
      · by_cases h3 : c.kind = 3
        · simp [h3]
        · have : ¬ (1 ≤ c.kind ∧ c.kind ≤ 3) := by omega
          simp [h1, h2, h3]; omega
  have hr : (inB (if c.kind = 3 then 0 else 1) leaves c.pos && (if c.kind = 3 then inB 1 4 c.many else decide (c.many = 0))) = rangeB c leaves := by
    unfold rangeB; split <;> rfl
  unfold refCh chErr
  rw [hk, hr]
  cases prev with
  | none => rfl
  | some p =>
    simp only []
    by_cases h1 : kindB c = false
    · simp [h1]
    · by_cases h2 : rangeB c leaves = false
      · simp [h2]
      · simp only [h1, h2, if_false]
        have : (c.pos < p.pos ∨ (c.pos = p.pos ∧ (c.kind ≠ 3 ∨ p.kind = 3))) ↔ orderB p c = false := by
          unfold orderB
          by_cases e : c.pos = p.pos
          · by_cases k : c.kind = 3 <;> by_cases q : p.kind = 3 <;> simp [e, k, q]
          · simp [e]; omega
        by_cases h3 : orderB p c = false
        · simp [h3, this]
        · simp [h3, this]

/-- The place of a lettered signature among all of them. -/
def rankG (g : Gth) : Int := if 23 ≤ g.letter then -1 else (g.round - 1) * 23 + g.letter
def ranksMax (gs : List Gth) : Int := gs.foldl (fun m g => max m (rankG g)) (-1)
/-- The error of a gathering behind others. -/
def refGth (before : List Gth) (g : Gth) : Int :=
  if sigB g.round g.letter = false then 7
  else if before.any (fun h => decide (h.round = g.round ∧ h.letter = g.letter)) then 5
  else if 0 ≤ rankG g ∧ rankG g < ranksMax before then 2
  else if g.leaves ≠ 1 ∧ (inB 2 12 g.leaves = false ∨ g.leaves % 2 = 1) then 7
  else if 4 < g.chs.length then 3
  else (chsErr g.leaves none 0 g.chs).2

def sigOf (g : Gth) : Int × Int := (g.round, g.letter)
def lastG (gs : List Gth) : Int × Int := gs.foldl lastOf (0, 0)
/-- What is so of gatherings that have no error: the last lettered one is the greatest. -/
structure OkG (gs : List Gth) : Prop where
  sig : ∀ g ∈ gs, sigB g.round g.letter = true
  last : (ranksMax gs = -1 ∧ lastG gs = (0, 0)) ∨ (0 ≤ ranksMax gs ∧ lastG gs ∈ gs.map sigOf ∧ (lastG gs).2 < 23 ∧ ranksMax gs = ((lastG gs).1 - 1) * 23 + (lastG gs).2)
theorem sigB_is {r l : Int} (h : sigB r l = true) : 1 ≤ r ∧ r ≤ 3 ∧ 0 ≤ l ∧ l ≤ 24 := by simp [sigB, inB] at h; omega
theorem okG_nil : OkG [] := ⟨fun _ h => (by cases h), Or.inl ⟨rfl, rfl⟩⟩

theorem rank_iff {before : List Gth} (h : OkG before) (g : Gth) (hs : sigB g.round g.letter = true) (hm : sigOf g ∉ before.map sigOf) :
    (0 ≤ rankG g ∧ rankG g < ranksMax before) ↔ (g.letter < 23 ∧ behindB g.round g.letter (lastG before).1 (lastG before).2 = false) := by
  have hb := sigB_is hs
  unfold rankG behindB
  rcases h.last with ⟨h1, h2⟩ | ⟨h1, h2, h3, h4⟩
  · rw [h1, h2]
    by_cases hl : 23 ≤ g.letter
    · rw [if_pos hl]; omega
    · rw [if_neg hl, if_neg (by show ¬ g.round = 0; omega), decide_eq_false_iff_not]
      show (_ ∧ _) ↔ (_ ∧ ¬ (0 : Int) < g.round)
      omega
  · have hne : ¬ (g.round = (lastG before).1 ∧ g.letter = (lastG before).2) := fun ⟨e1, e2⟩ => hm (by
      have : sigOf g = lastG before := by unfold sigOf; rw [e1, e2]
      rw [this]; exact h2)
    obtain ⟨q, hq, hqe⟩ := List.mem_map.1 h2
    have hqb := sigB_is (h.sig q hq)
    have e1 : q.round = (lastG before).1 := by rw [← hqe]; rfl
    have e2 : q.letter = (lastG before).2 := by rw [← hqe]; rfl
    rw [h4]
    by_cases hl : 23 ≤ g.letter
    · rw [if_pos hl]; omega
    · rw [if_neg hl]
      by_cases e : g.round = (lastG before).1
      · rw [if_pos e, decide_eq_false_iff_not]
        omega
      · rw [if_neg e, decide_eq_false_iff_not]
        omega

theorem leaves_iff (n : Int) : (n ≠ 1 ∧ (inB 2 12 n = false ∨ n % 2 = 1)) ↔ foldedB n = false := by
  unfold foldedB inB
  by_cases h1 : n = 1
  · simp [h1]
  · simp only [h1, decide_false, Bool.false_or, Bool.and_eq_false_iff, decide_eq_false_iff_not, ne_eq, not_false_eq_true, true_and]
    omega

theorem refGth_is {before : List Gth} (h : OkG before) (g : Gth) : refGth before g = gthErr (before.map sigOf) (lastG before) g := by
  unfold refGth gthErr
  by_cases hs : sigB g.round g.letter = false
  · rw [if_pos hs, if_pos hs]
  rw [if_neg hs, if_neg hs]
  have hs' : sigB g.round g.letter = true := by simpa using hs
  have hm : (before.any (fun h => decide (h.round = g.round ∧ h.letter = g.letter)) = true) ↔ (g.round, g.letter) ∈ before.map sigOf := by
    simp only [List.any_eq_true, decide_eq_true_eq, List.mem_map, sigOf, Prod.mk.injEq]
  by_cases hm' : (g.round, g.letter) ∈ before.map sigOf
  · rw [if_pos (hm.2 hm'), if_pos hm']
  rw [if_neg (fun e => hm' (hm.1 e)), if_neg hm']
  have hr := rank_iff h g hs' hm'
  by_cases hr' : g.letter < 23 ∧ behindB g.round g.letter (lastG before).1 (lastG before).2 = false
  · rw [if_pos hr', if_pos (hr.2 hr')]
  rw [if_neg hr', if_neg (fun e => hr' (hr.1 e))]
  have hl := leaves_iff g.leaves
  by_cases hl' : foldedB g.leaves = false
  · rw [if_pos hl', if_pos (hl.2 hl')]
  rw [if_neg hl', if_neg (fun e => hl' (hl.1 e))]

theorem ranksMax_snoc (gs : List Gth) (g : Gth) : ranksMax (gs ++ [g]) = max (ranksMax gs) (rankG g) := by simp [ranksMax]
theorem lastG_snoc (gs : List Gth) (g : Gth) : lastG (gs ++ [g]) = lastOf (lastG gs) g := by simp [lastG]
theorem okG_snoc {before : List Gth} (h : OkG before) (g : Gth) (h0 : refGth before g = 0) : OkG (before ++ [g]) := by
  unfold refGth at h0
  by_cases hs : sigB g.round g.letter = false
  · rw [if_pos hs] at h0; cases h0
  rw [if_neg hs] at h0
  have hs' : sigB g.round g.letter = true := by simpa using hs
  split at h0
  · cases h0
  split at h0
  · cases h0
  rename_i hr
  have hb := sigB_is hs'
  refine ⟨fun q hq => ?_, ?_⟩
  · rcases List.mem_append.1 hq with hq | hq
    · exact h.sig q hq
    · rw [List.mem_singleton] at hq; rw [hq]; exact hs'
  · rw [ranksMax_snoc, lastG_snoc]
    unfold lastOf
    by_cases hl : g.letter < 23
    · rw [if_pos hl]
      have e : rankG g = (g.round - 1) * 23 + g.letter := if_neg (by omega)
      have hmx : ¬ rankG g < ranksMax before := fun hh => hr ⟨by rw [e]; omega, hh⟩
      refine Or.inr ⟨?_, ?_, hl, ?_⟩
      · rw [e]; omega
      · simp [sigOf]
      · show max _ _ = (g.round - 1) * 23 + g.letter
        omega
    · rw [if_neg hl]
      have e : rankG g = -1 := if_pos (by omega)
      rw [e]
      rcases h.last with ⟨h1, h2⟩ | ⟨h1, h2, h3, h4⟩
      · exact Or.inl ⟨by rw [h1]; rfl, h2⟩
      · exact Or.inr ⟨by omega, by rw [List.map_append]; exact List.mem_append_left _ h2, h3, by omega⟩

/-- The first gathering with an error, behind others. -/
def refGs : List Gth → Nat → List Gth → Nat × Int
  | _, _, [] => (0, 0)
  | before, i, g :: gs => if refGth before g = 0 then refGs (before ++ [g]) (i + 1) gs else (i, refGth before g)
theorem refGs_is : ∀ (gs : List Gth) (before : List Gth) (i : Nat), OkG before → refGs before i gs = gsErr (before.map sigOf) (lastG before) i gs
  | [], _, _, _ => rfl
  | g :: gs, before, i, h => by
    unfold refGs gsErr
    rw [← refGth_is h g]
    by_cases h0 : refGth before g = 0
    · rw [if_pos h0, if_pos h0, refGs_is gs _ _ (okG_snoc h g h0), List.map_append, lastG_snoc]
      rfl
    · rw [if_neg h0, if_neg h0]
end Go.Proofs.YtimdmgkegdlafaaGreatDoor
