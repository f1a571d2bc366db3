/- The parts Ph, Pf, Cj, Cc of the proof, joined. It holds without conditions of its own. -/
import Derived.Test.YtockagnnpeoggaaGreatDoorLV24
import Derived.Test.YtockagnnpeoggaaGreatDoorLV1
/- How signatures and numbers are written and read: the one is the other. -/
namespace Go.Proofs.YtockagnnpeoggaaGreatDoor
set_option linter.unusedSimpArgs false
set_option linter.unusedVariables false
open Go

theorem skipF_is {w s t : Bs} (h : skipF w s = some t) : s = w ++ t := by
  unfold skipF at h
  split at h
  · rename_i hp
    obtain ⟨u, hu⟩ := List.isPrefixOf_iff_prefix.1 hp
    subst hu
    simp only [List.drop_left, Option.some.injEq] at h
    rw [h]
  · cases h
theorem skipF_app (w t : Bs) : skipF w (w ++ t) = some t := by
  unfold skipF
  rw [if_pos (List.isPrefixOf_iff_prefix.2 (List.prefix_append w t)), List.drop_left]
theorem letterAtF_is : ∀ (cs : List UInt8) (i : Int) (s t : Bs) (j : Int), letterAtF cs i s = some (j, t) → ∃ (k : Nat) (c : UInt8), j = i + k ∧ cs[k]? = some c ∧ s = c :: t
  | [], _, _, _, _, h => by cases h
  | c :: cs, i, s, t, j, h => by
    unfold letterAtF at h
    split at h
    · rename_i u hu
      simp only [Option.some.injEq, Prod.mk.injEq] at h
      obtain ⟨rfl, rfl⟩ := h
      exact ⟨0, c, by simp, rfl, skipF_is hu⟩
    · obtain ⟨k, d, h1, h2, h3⟩ := letterAtF_is cs (i + 1) s t j h
      exact ⟨k + 1, d, by omega, by simpa using h2, h3⟩
theorem letterF_is {s t : Bs} {l : Int} (h : letterF s = some (l, t)) : s = letterT l ++ t := by
  unfold letterF at h
  split at h
  · rename_i r hr
    obtain ⟨j, u⟩ := r
    simp only [Option.some.injEq, Prod.mk.injEq] at h
    obtain ⟨rfl, rfl⟩ := h
    obtain ⟨k, c, h1, h2, h3⟩ := letterAtF_is _ _ _ _ _ hr
    have hk : k < 23 := (List.getElem?_eq_some_iff.1 h2).1
    unfold letterT
    rw [if_neg (by omega), if_neg (by omega), h3, show j.toNat = k by omega, List.getD_eq_getElem?_getD, h2]
    rfl
  · split at h
    · rename_i u hu
      simp only [Option.some.injEq, Prod.mk.injEq] at h
      obtain ⟨rfl, rfl⟩ := h
      exact skipF_is hu
    · split at h
      · rename_i u hu
        simp only [Option.some.injEq, Prod.mk.injEq] at h
        obtain ⟨rfl, rfl⟩ := h
        exact skipF_is hu
      · cases h
theorem roundF_is (s : Bs) : s = (if 1 < (roundF s).1 then dec (roundF s).1 else []) ++ (roundF s).2 := by
  unfold roundF
  split
  · rename_i t h
    exact skipF_is h
  · split
    · rename_i t h
      exact skipF_is h
    · rfl
theorem sigF_is {s t : Bs} {a : Int × Int} (h : sigF s = some (a, t)) : s = sigT a.1 a.2 ++ t := by
  unfold sigF at h
  split at h
  · rename_i l u hu
    simp only [Option.some.injEq, Prod.mk.injEq] at h
    obtain ⟨rfl, rfl⟩ := h
    have h1 := roundF_is s
    rw [letterF_is hu] at h1
    unfold sigT
    rw [List.append_assoc]
    exact h1
  · cases h
set_option maxRecDepth 100000 in
theorem sigF_text {r l : Int} (h : sigB r l = true) (t : Bs) : sigF (sigT r l ++ t) = some ((r, l), t) := by
  have hb : 1 ≤ r ∧ r ≤ 3 ∧ 0 ≤ l ∧ l ≤ 24 := by simp [sigB, inB] at h; omega
  clear h
  have h1 : r = 1 ∨ r = 2 ∨ r = 3 := by omega
  have h2 : l = 0 ∨ l = 1 ∨ l = 2 ∨ l = 3 ∨ l = 4 ∨ l = 5 ∨ l = 6 ∨ l = 7 ∨ l = 8 ∨ l = 9 ∨ l = 10 ∨ l = 11 ∨ l = 12 ∨ l = 13 ∨ l = 14 ∨ l = 15 ∨ l = 16 ∨ l = 17 ∨ l = 18 ∨ l = 19 ∨ l = 20 ∨ l = 21 ∨ l = 22 ∨ l = 23 ∨ l = 24 := by omega
  clear hb
  rcases h1 with rfl | rfl | rfl
  all_goals
    rcases h2 with rfl | rfl | rfl | rfl | rfl | rfl | rfl | rfl | rfl | rfl | rfl | rfl | rfl | rfl | rfl | rfl | rfl | rfl | rfl | rfl | rfl | rfl | rfl | rfl | rfl <;> rfl
/-- No signature's text begins another's. -/
theorem sig_once {r l r' l' : Int} {t t' : Bs} (h : sigB r l = true) (h' : sigB r' l' = true) (e : sigT r l ++ t = sigT r' l' ++ t') : r = r' ∧ l = l' ∧ t = t' := by
  have h1 := sigF_text h t
  rw [e, sigF_text h' t'] at h1
  simp only [Option.some.injEq, Prod.mk.injEq] at h1
  obtain ⟨⟨h2, h3⟩, h4⟩ := h1
  exact ⟨h2.symm, h3.symm, h4.symm⟩
theorem sigT_pos (r l : Int) : 0 < (sigT r l).length := by
  unfold sigT letterT
  rw [List.length_append]
  split <;> split <;> (try split) <;> simp <;> omega

/-- A number's digits are read to where they end. -/
def noDig (t : Bs) : Prop := ∀ c, t.head? = some c → isDig c = false
theorem digitF_is {s t : Bs} {n : Int} (h : digitF s = some (n, t)) : ∃ c, s = c :: t ∧ n = (c.toNat : Int) - 48 ∧ 48 ≤ c.toNat ∧ c.toNat ≤ 57 := by
  cases s with
  | nil => cases h
  | cons c u =>
    change (if 48 ≤ c.toNat ∧ c.toNat ≤ 57 then some ((c.toNat : Int) - 48, u) else none) = some (n, t) at h
    split at h
    · rename_i hc
      simp only [Option.some.injEq, Prod.mk.injEq] at h
      obtain ⟨rfl, rfl⟩ := h
      exact ⟨c, rfl, rfl, hc.1, hc.2⟩
    · cases h
theorem digitF_none {t : Bs} (h : digitF t = none) : noDig t := by
  intro c hc
  cases t with
  | nil => cases hc
  | cons d u =>
    simp only [List.head?_cons, Option.some.injEq] at hc
    subst hc
    change (if 48 ≤ d.toNat ∧ d.toNat ≤ 57 then some ((d.toNat : Int) - 48, u) else none) = none at h
    split at h
    · cases h
    · rename_i hn
      simp only [isDig, Bool.and_eq_false_iff, decide_eq_false_iff_not]
      omega
theorem digitF_no {t : Bs} (h : noDig t) : digitF t = none := by
  cases t with
  | nil => rfl
  | cons d u =>
    have := h d rfl
    simp only [isDig, Bool.and_eq_false_iff, decide_eq_false_iff_not] at this
    change (if 48 ≤ d.toNat ∧ d.toNat ≤ 57 then some ((d.toNat : Int) - 48, u) else none) = none
    rw [if_neg (by omega)]
theorem byte_is {c : UInt8} {d : Nat} (h : c.toNat = 48 + d) (hd : d < 10) : c = UInt8.ofNat (48 + d) := by
  apply UInt8.toNat_inj.1
  rw [dig_at hd, h]
theorem dec_oneI {n : Int} (h0 : 0 ≤ n) (h1 : n < 10) : dec n = [UInt8.ofNat (48 + n.toNat)] := by
  unfold dec decN
  rw [if_pos (by omega)]
theorem dec_twoI {n : Int} (h0 : 10 ≤ n) (h1 : n < 100) : dec n = [UInt8.ofNat (48 + n.toNat / 10), UInt8.ofNat (48 + n.toNat % 10)] := by
  unfold dec decN
  rw [if_neg (by omega)]
theorem numberF_is {s t : Bs} {n : Int} (h : numberF s = some (n, t)) : s = dec n ++ t ∧ 0 ≤ n ∧ n ≤ 12 ∧ (n = 0 ∨ noDig t) := by
  unfold numberF at h
  split at h
  · cases h
  · rename_i d u hd
    obtain ⟨c, rfl, rfl, hc0, hc1⟩ := digitF_is hd
    have ec : c = UInt8.ofNat (48 + (c.toNat - 48)) := byte_is (by omega) (by omega)
    unfold numF at h
    split at h
    · simp only [Option.some.injEq, Prod.mk.injEq] at h
      obtain ⟨rfl, rfl⟩ := h
      refine ⟨?_, by omega, by omega, Or.inl (by omega)⟩
      rw [dec_oneI (by omega) (by omega), show ((c.toNat : Int) - 48).toNat = c.toNat - 48 by omega, ← ec]
      rfl
    · rename_i hp
      split at h
      · rename_i hn
        simp only [Option.some.injEq, Prod.mk.injEq] at h
        obtain ⟨rfl, rfl⟩ := h
        refine ⟨?_, by omega, by omega, Or.inr (digitF_none hn)⟩
        rw [dec_oneI (by omega) (by omega), show ((c.toNat : Int) - 48).toNat = c.toNat - 48 by omega, ← ec]
        rfl
      · rename_i d2 v hd2
        obtain ⟨c2, rfl, rfl, hc2, hc3⟩ := digitF_is hd2
        have ec2 : c2 = UInt8.ofNat (48 + (c2.toNat - 48)) := byte_is (by omega) (by omega)
        split at h
        · cases h
        · rename_i hle
          unfold numF at h
          split at h
          · omega
          · split at h
            · rename_i hn
              simp only [Option.some.injEq, Prod.mk.injEq] at h
              obtain ⟨rfl, rfl⟩ := h
              refine ⟨?_, by omega, by omega, Or.inr (digitF_none hn)⟩
              rw [dec_twoI (by omega) (by omega), show (10 * ((c.toNat : Int) - 48) + ((c2.toNat : Int) - 48)).toNat / 10 = c.toNat - 48 by omega, show (10 * ((c.toNat : Int) - 48) + ((c2.toNat : Int) - 48)).toNat % 10 = c2.toNat - 48 by omega, ← ec, ← ec2]
              rfl
            · rename_i d3 z hd3
              obtain ⟨c3, rfl, rfl, hc4, hc5⟩ := digitF_is hd3
              split at h
              · cases h
              · omega
theorem digitF_dig {d : Nat} (hd : d < 10) (t : Bs) : digitF (UInt8.ofNat (48 + d) :: t) = some ((d : Int), t) := by
  change (if 48 ≤ (UInt8.ofNat (48 + d)).toNat ∧ (UInt8.ofNat (48 + d)).toNat ≤ 57 then some (((UInt8.ofNat (48 + d)).toNat : Int) - 48, t) else none) = _
  rw [dig_at hd, if_pos (by omega), show ((48 + d : Nat) : Int) - 48 = d by omega]
theorem numberF_dec {n : Int} (h0 : 0 ≤ n) (h1 : n ≤ 12) {t : Bs} (h : n = 0 ∨ noDig t) : numberF (dec n ++ t) = some (n, t) := by
  by_cases h2 : n < 10
  · rw [dec_oneI h0 h2]
    show numberF (UInt8.ofNat (48 + n.toNat) :: t) = _
    unfold numberF
    rw [digitF_dig (show n.toNat < 10 by omega)]
    dsimp only
    rw [show ((n.toNat : Nat) : Int) = n by omega]
    unfold numF
    by_cases hz : n ≤ 0
    · rw [if_pos hz]
    · rw [if_neg hz, digitF_no (h.resolve_left (by omega))]
  · rw [dec_twoI (by omega) (by omega)]
    show numberF (UInt8.ofNat (48 + n.toNat / 10) :: UInt8.ofNat (48 + n.toNat % 10) :: t) = _
    unfold numberF
    rw [digitF_dig (show n.toNat / 10 < 10 by omega)]
    dsimp only
    unfold numF
    rw [if_neg (by omega), digitF_dig (show n.toNat % 10 < 10 by omega)]
    dsimp only
    rw [show 10 * ((n.toNat / 10 : Nat) : Int) + ((n.toNat % 10 : Nat) : Int) = n by omega, if_neg (by omega)]
    unfold numF
    rw [if_neg (by omega), digitF_no (h.resolve_left (by omega))]
/-- A leaf's name that is read is how this leaf is written. -/
theorem noDig_plus (t : Bs) : noDig (43 :: t) := by
  intro c hc
  simp only [List.head?_cons, Option.some.injEq] at hc
  subst hc
  rfl
theorem leafName_is {s : Bs} {r l n p : Int} (h : allF (leafNameF s) = some (r, l, n, p)) : sigB r l = true ∧ possibleB n p = true ∧ s = nameT r l n p := by
  cases hq : leafNameF s with
  | none => rw [hq] at h; cases h
  | some x =>
    obtain ⟨q, t⟩ := x
    rw [hq] at h
    cases t with
    | cons c t => cases h
    | nil =>
      simp only [allF, Option.some.injEq] at h
      subst h
      unfold leafNameF at hq
      split at hq
      · cases hq
      · rename_i a u ha
        split at hq
        · cases hq
        · rename_i n' v hn
          split at hq
          · cases hq
          · rename_i p' z hp
            split at hq
            · rename_i hposs
              simp only [Option.some.injEq, Prod.mk.injEq] at hq
              obtain ⟨⟨rfl, rfl, rfl, rfl⟩, rfl⟩ := hq
              refine ⟨(sigF_len ha).2, hposs, ?_⟩
              rw [sigF_is ha, (numberF_is hn).1]
              unfold nameT
              rw [List.append_assoc]
              congr 2
              unfold plusF at hp
              split at hp
              · simp only [Option.some.injEq, Prod.mk.injEq] at hp
                obtain ⟨rfl, rfl⟩ := hp
                simp
              · rename_i y hy
                split at hp
                · cases hp
                · rename_i p2 z2 hz
                  split at hp
                  · cases hp
                  · rename_i hp0
                    simp only [Option.some.injEq, Prod.mk.injEq] at hp
                    obtain ⟨rfl, rfl⟩ := hp
                    have hz' := numberF_is hz
                    rw [skipF_is hy, hz'.1, if_pos (by omega)]
                    simp
            · cases hq
theorem possible_rng {n p : Int} (h : possibleB n p = true) : 0 ≤ n ∧ n ≤ 12 ∧ 0 ≤ p ∧ p ≤ 4 ∧ ¬ (n = 0 ∧ p = 0) := by
  unfold possibleB inB at h
  simp only [Bool.and_eq_true, Bool.not_eq_true', Bool.and_eq_false_iff, decide_eq_true_eq, decide_eq_false_iff_not] at h
  omega
theorem possible_of {n p : Int} (h : 0 ≤ n ∧ n ≤ 12 ∧ 0 ≤ p ∧ p ≤ 4 ∧ ¬ (n = 0 ∧ p = 0)) : possibleB n p = true := by
  unfold possibleB inB
  simp only [Bool.and_eq_true, Bool.not_eq_true', Bool.and_eq_false_iff, decide_eq_true_eq, decide_eq_false_iff_not]
  omega

/-- Whether a string is as a leaf of some book can be written: as the reference asks. -/
def someF (s : Bs) : Bool := match sigF s with
  | none => false
  | some (_, t) => match cutF 43 t with
    | [_] => inB 1 12 (decF t)
    | [u, v] => inB 0 12 (decF u) && inB 1 4 (decF v)
    | _ => false
theorem dec_clean {n : Int} (h0 : 0 ≤ n) (h1 : n < 100) : (43 : UInt8) ∉ dec n := by
  intro h
  have e : digN n.toNat = dec n := digN_dec (by omega)
  rw [← e] at h
  have := List.all_eq_true.1 (digN_all n.toNat) 43 h
  cases this
theorem joinB_two (c : UInt8) (u v : Bs) : joinB c [u, v] = u ++ c :: v := rfl
theorem some_is (s : Bs) : someF s = (allF (leafNameF s)).isSome := by
  cases hn : allF (leafNameF s) with
  | some q =>
    obtain ⟨r, l, n, p⟩ := q
    obtain ⟨h1, h2, rfl⟩ := leafName_is hn
    have hp := possible_rng h2
    unfold someF nameT
    rw [List.append_assoc, sigF_text h1]
    dsimp only
    by_cases hp0 : 0 < p
    · rw [if_pos hp0, cutF_app 43 _ _ (dec_clean hp.1 (by omega)), cutF_one 43 _ (dec_clean hp.2.2.1 (by omega))]
      dsimp only
      rw [decF_dec hp.1 (by omega), decF_dec hp.2.2.1 (by omega)]
      simp [inB]
      omega
    · rw [if_neg hp0, List.append_nil, cutF_one 43 _ (dec_clean hp.1 (by omega))]
      dsimp only
      rw [decF_dec hp.1 (by omega)]
      simp [inB]
      omega
  | none =>
    show someF s = false
    cases hs : someF s with
    | false => rfl
    | true =>
      exfalso
      unfold someF at hs
      split at hs
      · cases hs
      · rename_i a t ha
        have hsig := (sigF_len ha).2
        have hb : (1 ≤ a.1 ∧ a.1 ≤ 3) ∧ (0 ≤ a.2 ∧ a.2 ≤ 24) := by simp [sigB, inB] at hsig; omega
        have hst := sigF_is ha
        have hj := cutF_join 43 t
        split at hs
        · rename_i u hu
          simp only [inB, Bool.and_eq_true, decide_eq_true_eq] at hs
          have ht := decF_dec_is (u := t) (by omega) (by omega)
          have e : s = nameT a.1 a.2 (decF t) 0 := by
            unfold nameT
            rw [if_neg (by omega), List.append_nil, ← ht]
            exact hst
          have := name_back (r := a.1) (l := a.2) (n := decF t) (p := 0) hb.1 hb.2 (by omega) (by omega) (possible_of (by omega))
          rw [← e, hn] at this
          cases this
        · rename_i u v hu
          rw [hu, joinB_two] at hj
          simp only [inB, Bool.and_eq_true, decide_eq_true_eq] at hs
          have hu' := decF_dec_is (u := u) (by omega) (by omega)
          have hv' := decF_dec_is (u := v) (by omega) (by omega)
          have e : s = nameT a.1 a.2 (decF u) (decF v) := by
            unfold nameT
            rw [if_pos (by omega), ← hu', ← hv', List.append_assoc, hj]
            exact hst
          have := name_back (r := a.1) (l := a.2) (n := decF u) (p := decF v) hb.1 hb.2 (by omega) (by omega) (possible_of (by omega))
          rw [← e, hn] at this
          cases this
        · cases hs
/-- The place of a string among how the leaves are written is where the leaf is that is read. -/
theorem place_find {b : Bk} (he : errF b = 0) {s : Bs} {q : Int × Int × Int × Int} (h : allF (leafNameF s) = some q) (x : Lf) (hx : x ∈ lvs b) : lfText b x = s ↔ nameQ b x = q := by
  obtain ⟨r, l, n, p⟩ := q
  constructor
  · intro e
    have := text_back he hx
    rw [e, h] at this
    exact (Option.some.inj this).symm
  · intro e
    obtain ⟨h1, h2, h3⟩ := leafName_is h
    obtain ⟨g, hg, _⟩ := lvs_mem hx
    unfold nameQ at e
    rw [hg] at e
    simp only [Prod.mk.injEq] at e
    obtain ⟨rfl, rfl, rfl, rfl⟩ := e
    unfold lfText
    rw [hg, h3]
end Go.Proofs.YtockagnnpeoggaaGreatDoor

/- How many leaves a book has. Nothing of the program. -/
namespace Go.Proofs.YtockagnnpeoggaaGreatDoor
set_option linter.unusedSimpArgs false
set_option linter.unusedVariables false

theorem snoc_rec {α : Type} {motive : List α → Prop} (nil : motive []) (snoc : ∀ xs x, motive xs → motive (xs ++ [x])) (xs : List α) : motive xs := by
  have h : ∀ ys : List α, motive ys.reverse := fun ys => by
    induction ys with
    | nil => exact nil
    | cons y ys ih => rw [List.reverse_cons]; exact snoc _ _ ih
  rw [← List.reverse_reverse xs]
  exact h _
def sumR (f : Nat → Int) : Nat → Int
  | 0 => 0
  | n + 1 => sumR f n + f n
theorem sumR_congr {f g : Nat → Int} : ∀ {n : Nat}, (∀ k, k < n → f k = g k) → sumR f n = sumR g n
  | 0, _ => rfl
  | n + 1, h => by
    unfold sumR
    rw [sumR_congr fun k hk => h k (by omega), h n (by omega)]
theorem sumR_one {f g : Nat → Int} {p : Nat} : ∀ {n : Nat}, p < n → (∀ k, k < n → k ≠ p → f k = g k) → sumR f n = sumR g n + (f p - g p)
  | 0, h, _ => by omega
  | n + 1, hp, h => by
    unfold sumR
    by_cases e : p = n
    · subst e
      rw [sumR_congr (f := f) (g := g) fun k hk => h k (by omega) (by omega)]
      omega
    · rw [sumR_one (p := p) (n := n) (by omega) fun k hk hne => h k (by omega) hne, h n (by omega) (fun e' => e e'.symm)]
      omega
theorem flat_len {α : Type} (f : Nat → List α) : ∀ n : Nat, (((List.range n).flatMap f).length : Int) = sumR (fun k => (f k).length) n
  | 0 => by simp [sumR]
  | n + 1 => by
    rw [List.range_succ, List.flatMap_append, List.length_append]
    unfold sumR
    rw [← flat_len f n]
    simp
/-- How many leaves are at a number. -/
def cntF (k : Nat) (f : Fate) : Int := (if 0 < k ∧ f.gone = false then 1 else 0) + f.added
theorem cnt_is {i k : Nat} {f : Fate} (h : 0 ≤ f.added) : ((lvsNum i k f).length : Int) = cntF k f := by
  unfold lvsNum cntF
  rw [List.length_append, List.length_map, List.length_range]
  split <;> simp <;> omega
/-- Changes in their order. -/
def ltC (b c : Chg) : Prop := b.pos < c.pos ∨ (b.pos = c.pos ∧ c.kind = 3 ∧ b.kind ≠ 3)
theorem ltC_trans {a b c : Chg} (h1 : ltC a b) (h2 : ltC b c) : ltC a c := by unfold ltC at *; omega
theorem order_lt {b c : Chg} (h : orderB b c = true) : ltC b c := by
  unfold orderB at h
  unfold ltC
  split at h
  · simp only [Bool.and_eq_true, decide_eq_true_eq] at h
    omega
  · simp only [decide_eq_true_eq] at h
    omega
theorem chs_sorted : ∀ (cs : List Chg) (l : Int) (p : Option Chg) (i : Nat), (chsErr l p i cs).2 = 0 → cs.Pairwise ltC ∧ ∀ q, p = some q → ∀ c ∈ cs, ltC q c
  | [], _, _, _, _ => ⟨List.Pairwise.nil, fun _ _ _ h => by cases h⟩
  | x :: xs, l, p, i, h => by
    unfold chsErr at h
    by_cases h0 : chErr l p x = 0
    · rw [if_pos h0] at h
      obtain ⟨h1, h2⟩ := chs_sorted xs l (some x) (i + 1) h
      refine ⟨List.pairwise_cons.2 ⟨fun c hc => h2 x rfl c hc, h1⟩, fun q hq c hc => ?_⟩
      subst hq
      have hqx : ltC q x := by
        unfold chErr at h0
        by_cases hk : kindB x = false
        · rw [if_pos hk] at h0; omega
        rw [if_neg hk] at h0
        by_cases hr : rangeB x l = false
        · rw [if_pos hr] at h0; omega
        rw [if_neg hr] at h0
        dsimp only at h0
        by_cases ho : orderB q x = false
        · rw [if_pos ho] at h0; omega
        · exact order_lt (by simpa using ho)
      rcases List.mem_cons.1 hc with rfl | hc
      · exact hqx
      · exact ltC_trans hqx (h2 x rfl c hc)
    · rw [if_neg h0] at h; exact absurd h h0
/-- What a change adds to the leaves. -/
def addF (c : Chg) : Int := if c.kind = 1 then c.many - 1 else c.many
def sumC (cs : List Chg) : Int := (cs.map addF).sum
theorem fate_snoc (cs : List Chg) (c : Chg) (n : Int) : fateF (cs ++ [c]) n = fateStep n (fateF cs n) c := by unfold fateF; rw [List.foldl_append]; rfl
theorem fate_none : ∀ (cs : List Chg) (n : Int), (∀ c ∈ cs, c.pos ≠ n) → fateF cs n = ⟨false, false, 0⟩ := by
  intro cs
  induction cs using snoc_rec with
  | nil => intro n _; rfl
  | snoc cs c ih =>
    intro n h
    rw [fate_snoc, ih n fun x hx => h x (by simp [hx])]
    unfold fateStep
    rw [if_pos (h c (by simp))]
theorem fate_zero : ∀ (cs : List Chg) (n : Int), (∀ c ∈ cs, c.pos = n → c.kind ≠ 3) → (fateF cs n).added = 0 := by
  intro cs
  induction cs using snoc_rec with
  | nil => intro n _; rfl
  | snoc cs c ih =>
    intro n h
    have h1 := ih n fun x hx => h x (by simp [hx])
    rw [fate_snoc]
    unfold fateStep
    split
    · exact h1
    · rename_i hp
      have hk := h c (by simp) (by omega)
      split
      · exact h1
      · split
        · exact h1
        · first | exact h1 | (rw [if_neg hk]; exact h1)
theorem cnt_sum (n : Nat) : ∀ (cs : List Chg), cs.Pairwise ltC → (∀ c ∈ cs, (c.kind = 1 ∨ c.kind = 2 ∨ c.kind = 3) ∧ 0 ≤ c.pos ∧ c.pos ≤ n ∧ (c.kind ≠ 3 → 1 ≤ c.pos ∧ c.many = 0)) → sumR (fun k => cntF k (fateF cs k)) (n + 1) = n + sumC cs := by
  intro cs
  induction cs using snoc_rec with
  | nil =>
    intro _ _
    have : ∀ m : Nat, sumR (fun k => cntF k (fateF [] k)) (m + 1) = m := fun m => by
      induction m with
      | zero => simp [sumR, cntF, fateF]
      | succ m ih =>
        unfold sumR
        rw [ih]
        simp [cntF, fateF]
    rw [this n]
    simp [sumC]
  | snoc cs c ih =>
    intro hp hc
    rw [List.pairwise_append] at hp
    obtain ⟨hp1, -, hp2⟩ := hp
    obtain ⟨hk, h0, h1, h2⟩ := hc c (by simp)
    have hi := ih hp1 fun x hx => hc x (by simp [hx])
    have hlt : ∀ x ∈ cs, ltC x c := fun x hx => hp2 x hx c (by simp)
    have e1 : sumC (cs ++ [c]) = sumC cs + addF c := by simp [sumC]
    rw [e1, sumR_one (g := fun k => cntF k (fateF cs k)) (p := c.pos.toNat) (by omega) (fun k hkn hne => by
      try dsimp only
      rw [fate_snoc]
      unfold fateStep
      rw [if_pos (by omega)]), hi]
    try dsimp only
    rw [show ((c.pos.toNat : Nat) : Int) = c.pos by omega, fate_snoc]
    unfold fateStep
    rw [if_neg (by omega)]
    by_cases k1 : c.kind = 1
    · have hf := fate_none cs c.pos fun x hx e => by have := hlt x hx; unfold ltC at this; omega
      have h3 := h2 (by omega)
      rw [hf, if_pos k1]
      unfold cntF addF
      rw [if_pos k1]
      have : 0 < c.pos.toNat := by omega
      simp [this]
      omega
    by_cases k2 : c.kind = 2
    · have h3 := h2 (by omega)
      rw [if_neg k1, if_pos k2]
      unfold cntF addF
      rw [if_neg k1]
      dsimp only
      omega
    · have k3 : c.kind = 3 := by omega
      have hz := fate_zero cs c.pos fun x hx e => by have := hlt x hx; unfold ltC at this; omega
      rw [if_neg k1, if_neg k2, if_pos k3]
      unfold cntF addF
      rw [if_neg k1]
      dsimp only
      omega
theorem chs_facts {g : Gth} (h : GOk g) : g.chs.Pairwise ltC ∧ ∀ c ∈ g.chs, (c.kind = 1 ∨ c.kind = 2 ∨ c.kind = 3) ∧ 0 ≤ c.pos ∧ c.pos ≤ g.leaves.toNat ∧ (c.kind ≠ 3 → 1 ≤ c.pos ∧ c.many = 0) := by
  refine ⟨(chs_sorted _ _ _ _ h.chs).1, fun c hc => ?_⟩
  have hl := h.leaves
  obtain ⟨h1, h2, h3, h4, h5⟩ := h.ch hc
  refine ⟨h1, h2, by omega, fun hk => ?_⟩
  obtain ⟨_, hr⟩ := chsErr_zero h.chs c hc
  unfold rangeB at hr
  rw [if_neg hk] at hr
  simp only [Bool.and_eq_true, inB_iff, decide_eq_true_eq] at hr
  omega
theorem added_nonneg : ∀ (cs : List Chg) (n : Int), (∀ c ∈ cs, 0 ≤ c.many) → 0 ≤ (fateF cs n).added := by
  intro cs
  induction cs using snoc_rec with
  | nil => intro n _; simp [fateF]
  | snoc cs c ih =>
    intro n h
    have h1 := ih n fun x hx => h x (by simp [hx])
    rw [fate_snoc]
    unfold fateStep
    split
    · exact h1
    · split
      · exact h1
      · split
        · exact h1
        · split
          · exact h c (by simp)
          · exact h1
/-- HOW MANY LEAVES A GATHERING HAS. -/
theorem lvsG_count {i : Nat} {g : Gth} (h : GOk g) : ((lvsG i g).length : Int) = g.leaves + sumC g.chs := by
  have hl := h.leaves
  obtain ⟨h1, h2⟩ := chs_facts h
  have e : (g.leaves + 1).toNat = g.leaves.toNat + 1 := by omega
  unfold lvsG
  rw [e, flat_len, sumR_congr (g := fun k => cntF k (fateF g.chs k)) fun k _ => cnt_is (added_nonneg _ _ fun c hc => (h.ch hc).2.2.2.1), cnt_sum _ _ h1 h2]
  omega
def sumG (gs : List Gth) : Int := (gs.map fun g => g.leaves + sumC g.chs).sum
theorem lvsFrom_count : ∀ (gs : List Gth) (i : Nat), (∀ g ∈ gs, GOk g) → ((lvsFrom i gs).length : Int) = sumG gs
  | [], _, _ => rfl
  | g :: gs, i, h => by
    unfold lvsFrom sumG
    rw [List.length_append, List.map_cons, List.sum_cons]
    have h1 := lvsG_count (i := i) (h g (by simp))
    have h2 := lvsFrom_count gs (i + 1) fun x hx => h x (by simp [hx])
    unfold sumG at h2
    omega
end Go.Proofs.YtockagnnpeoggaaGreatDoor

/- The reference: what the changes of a gathering do at a number (plus); it says the same as fateF. -/
namespace Go.Proofs.YtockagnnpeoggaaGreatDoor
set_option linter.unusedSimpArgs false
set_option linter.unusedVariables false
open Go Go.RowKit Go.Sort Go.BigFrame

def plusStep (n : Int) (p : Int × Int) (c : Chg) : Int × Int := if c.pos = n then (if c.kind = 3 then (c.many, p.2) else (p.1, c.kind)) else p
def plusG (cs : List Chg) (n : Int) : Int × Int := cs.foldl (plusStep n) (0, 0)
theorem plus_snoc (cs : List Chg) (c : Chg) (n : Int) : plusG (cs ++ [c]) n = plusStep n (plusG cs n) c := by unfold plusG; rw [List.foldl_append]; rfl
theorem plus_take {cs : List Chg} {k : Nat} {c : Chg} {n : Int} (h : cs[k]? = some c) : plusG (cs.take (k + 1)) n = plusStep n (plusG (cs.take k) n) c := by
  rw [List.take_add_one, h]
  exact plus_snoc _ _ _
theorem plus_none : ∀ (cs : List Chg) (n : Int), (∀ c ∈ cs, c.pos ≠ n) → plusG cs n = (0, 0) := by
  intro cs
  induction cs using snoc_rec with
  | nil => intro n _; rfl
  | snoc cs c ih =>
    intro n h
    rw [plus_snoc, ih n fun x hx => h x (by simp [hx])]
    unfold plusStep
    rw [if_neg (h c (by simp))]
/-- The kind that a fate has, as plus tells it. -/
def fateK (f : Fate) : Int := if f.gone then 1 else if f.swapped then 2 else 0
theorem plus_is : ∀ (cs : List Chg) (n : Int), cs.Pairwise ltC → (∀ c ∈ cs, c.kind = 1 ∨ c.kind = 2 ∨ c.kind = 3) → plusG cs n = ((fateF cs n).added, fateK (fateF cs n)) := by
  intro cs
  induction cs using snoc_rec with
  | nil => intro n _ _; rfl
  | snoc cs c ih =>
    intro n hp hk
    rw [List.pairwise_append] at hp
    obtain ⟨hp1, -, hp2⟩ := hp
    have hi := ih n hp1 fun x hx => hk x (by simp [hx])
    have hkc := hk c (by simp)
    have hlt : ∀ x ∈ cs, ltC x c := fun x hx => hp2 x hx c (by simp)
    rw [plus_snoc, fate_snoc]
    unfold plusStep fateStep
    by_cases hpos : c.pos = n
    · by_cases k3 : c.kind = 3
      · simp [hpos, k3, hi, fateK]
      · have h0 : ∀ x ∈ cs, x.pos ≠ n := fun x hx e => by
          have := hlt x hx
          unfold ltC at this
          omega
        have hf := fate_none cs n h0
        by_cases k1 : c.kind = 1
        · simp [hpos, k1, hi, hf, fateK]
        · have k2 : c.kind = 2 := by omega
          simp [hpos, k2, hi, hf, fateK]
    · simp [hpos, hi]

set_option maxRecDepth 100000 in
set_option maxHeartbeats 800000 in
theorem refPlus_any (g : Gth) (a : Option Addr) (m cap : Nat) (n : Int) (w : World) (hch : ChsAt w.heap.size w (.slice a m cap) g.chs) (hl : g.chs.length ≤ 100) :
    Calls Tryz.prog 76 #[.agg #[.int .i64 g.round, .int .i64 g.letter, .int .i64 g.leaves, .slice a m cap], .int .i64 n] w fun e w' => e = .returned (.tuple #[.int .i64 (plusG g.chs n).1, .int .i64 (plusG g.chs n).2]) ∧ Below w.heap.size w w' := by
  obtain ⟨a', cap', hav, hcell⟩ := hch
  simp only [Value.slice.injEq] at hav
  obtain ⟨rfl, hm, rfl⟩ := hav
  have HC := Lib.hid hcell
  have HM := Lib.hid hm
  have hm100 : m ≤ 100 := by omega
  have hba : Below w.heap.size w (w.alloc (.cells #[.int .i64 g.round, .int .i64 g.letter, .int .i64 g.leaves, .slice a m cap] 57)) := (Below.refl _ w).alloc (Nat.le_refl _) _
  have HB : Hid ((w.alloc (.cells #[.int .i64 g.round, .int .i64 g.letter, .int .i64 g.leaves, .slice a m cap] 57)).heap[w.heap.size]? = some (.cells #[.int .i64 g.round, .int .i64 g.letter, .int .i64 g.leaves, .slice a m cap] 57)) := Lib.hid (World.alloc_heap_new _ _)
  have HBA := Lib.hid hba
  clear hcell hm hba hl
  go_enter Tryz.func76, Tryz.ntmps76
  go_wp2_with fail
  revert HB HBA
  generalize (w.alloc (.cells #[.int .i64 g.round, .int .i64 g.letter, .int .i64 g.leaves, .slice a m cap] 57)) = w1
  intro HB HBA
  have p3 := blk_cell HB.out 3
  change w1.cell? ⟨w.heap.size, 3, none⟩ = some (.slice a m cap) at p3
  go_loopw [4, 5, 6] (fun u q i wr => ∃ (k : Nat), k ≤ m ∧ i = .int .i64 k ∧ u = .int .i64 (plusG (g.chs.take k) n).1 ∧ q = .int .i64 (plusG (g.chs.take k) n).2 ∧ wr = w1) (fun _ _ i _ => m - (intOf i).toNat)
  case atStart => exact ⟨0, by omega, rfl, rfl, rfl, rfl⟩
  case round =>
    obtain ⟨k, hk, rfl, rfl, rfl, rfl⟩ := hrel
    by_cases hlt : k < m
    · obtain ⟨c, hc⟩ : ∃ c, g.chs[k]? = some c := ⟨_, List.getElem?_eq_getElem (by have := HM.out; omega)⟩
      obtain ⟨cb, coff, rfl, hcb, hcell⟩ := HC.out (fun e => by rw [e] at hc; cases hc)
      obtain ⟨q0, q1, q2⟩ := hcell k c hc
      have q0 := (HBA.out.cell (p := ⟨cb, coff + k * 3, none⟩) hcb).trans q0
      have q1 := (HBA.out.cell (p := ⟨cb, coff + k * 3 + 1, none⟩) hcb).trans q1
      have q2 := (HBA.out.cell (p := ⟨cb, coff + k * 3 + 2, none⟩) hcb).trans q2
      have HT := Lib.hid (plus_take (n := n) hc)
      have d1 : ((k : Int) < m) := by omega
      clear hc hcell
      by_cases hpos : c.pos = n
      · have e1 : (c.pos == n) = true := by simp [hpos]
        by_cases h3 : c.kind = 3
        · have e2 : (c.kind == 3) = true := by simp [h3]
          have e3 : (c.kind != 3) = false := by simp [h3]
          have HV : Hid (plusG (g.chs.take (k + 1)) n = (c.many, (plusG (g.chs.take k) n).2)) := Lib.hid (by rw [HT.out]; unfold plusStep; rw [if_pos hpos, if_pos h3])
          clear hpos h3 HT
          go_wp2_with fail
          go_roundw
          case rel => exact ⟨k + 1, by omega, by go_num, by rw [HV.out], by rw [HV.out], trivial⟩
          case measure => simp [intOf]; omega
        · have e2 : (c.kind == 3) = false := by simp [h3]
          have e3 : (c.kind != 3) = true := by simp [h3]
          have HV : Hid (plusG (g.chs.take (k + 1)) n = ((plusG (g.chs.take k) n).1, c.kind)) := Lib.hid (by rw [HT.out]; unfold plusStep; rw [if_pos hpos, if_neg h3])
          clear hpos h3 HT
          go_wp2_with fail
          go_roundw
          case rel => exact ⟨k + 1, by omega, by go_num, by rw [HV.out], by rw [HV.out], trivial⟩
          case measure => simp [intOf]; omega
      · have e1 : (c.pos == n) = false := by simp [hpos]
        have HV : Hid (plusG (g.chs.take (k + 1)) n = plusG (g.chs.take k) n) := Lib.hid (by rw [HT.out]; unfold plusStep; rw [if_neg hpos])
        clear hpos HT
        go_wp2_with fail
        go_roundw
        case rel => exact ⟨k + 1, by omega, by go_num, by rw [HV.out], by rw [HV.out], trivial⟩
        case measure => simp [intOf]; omega
    · have HV : Hid (plusG g.chs n = plusG (g.chs.take k) n) := Lib.hid (by rw [List.take_of_length_le (by have := HM.out; omega)])
      go_wp2_with fail
      go_ret2
      exact ⟨by rw [HV.out]; rfl, HBA.out⟩
end Go.Proofs.YtockagnnpeoggaaGreatDoor

/- The reference's error of a gathering, as plain Lean, and that it is the one of the program. -/
namespace Go.Proofs.YtockagnnpeoggaaGreatDoor
set_option linter.unusedSimpArgs false
set_option linter.unusedVariables false

/-- The error of change i. -/
def refCh (leaves : Int) (prev : Option Chg) (c : Chg) : Int :=
  if inB 1 3 c.kind = false then 6
  else if (inB (if c.kind = 3 then 0 else 1) leaves c.pos && (if c.kind = 3 then inB 1 4 c.many else decide (c.many = 0))) = false then 7
  else match prev with
    | none => 0
    | some p => if c.pos < p.pos ∨ (c.pos = p.pos ∧ (c.kind ≠ 3 ∨ p.kind = 3)) then 2 else 0
theorem refCh_is (leaves : Int) (prev : Option Chg) (c : Chg) : refCh leaves prev c = chErr leaves prev c := by
  have hk : inB 1 3 c.kind = kindB c := by
    unfold inB kindB
    by_cases h1 : c.kind = 1
    · simp [h1]
    · by_cases h2 : c.kind = 2
      · simp [h2]
      · by_cases h3 : c.kind = 3
        · simp [h3]
        · have : ¬ (1 ≤ c.kind ∧ c.kind ≤ 3) := by omega
          simp [h1, h2, h3]; omega
  have hr : (inB (if c.kind = 3 then 0 else 1) leaves c.pos && (if c.kind = 3 then inB 1 4 c.many else decide (c.many = 0))) = rangeB c leaves := by
    unfold rangeB; split <;> rfl
  unfold refCh chErr
  rw [hk, hr]
  cases prev with
  | none => rfl
  | some p =>
    simp only []
    by_cases h1 : kindB c = false
    · simp [h1]
    · by_cases h2 : rangeB c leaves = false
      · simp [h2]
      · simp only [h1, h2, if_false]
        have : (c.pos < p.pos ∨ (c.pos = p.pos ∧ (c.kind ≠ 3 ∨ p.kind = 3))) ↔ orderB p c = false := by
          unfold orderB
          by_cases e : c.pos = p.pos
          · by_cases k : c.kind = 3 <;> by_cases q : p.kind = 3 <;> simp [e, k, q]
          · simp [e]; omega
        by_cases h3 : orderB p c = false
        · simp [h3, this]
        · simp [h3, this]

/-- The place of a lettered signature among all of them. -/
def rankG (g : Gth) : Int := if 23 ≤ g.letter then -1 else (g.round - 1) * 23 + g.letter
def ranksMax (gs : List Gth) : Int := gs.foldl (fun m g => max m (rankG g)) (-1)
/-- The error of a gathering behind others. -/
def refGth (before : List Gth) (g : Gth) : Int :=
  if sigB g.round g.letter = false then 7
  else if before.any (fun h => decide (h.round = g.round ∧ h.letter = g.letter)) then 5
  else if 0 ≤ rankG g ∧ rankG g < ranksMax before then 2
  else if g.leaves ≠ 1 ∧ (inB 2 12 g.leaves = false ∨ g.leaves % 2 = 1) then 7
  else if 4 < g.chs.length then 3
  else (chsErr g.leaves none 0 g.chs).2

def sigOf (g : Gth) : Int × Int := (g.round, g.letter)
def lastG (gs : List Gth) : Int × Int := gs.foldl lastOf (0, 0)
/-- What is so of gatherings that have no error: the last lettered one is the greatest. -/
structure OkG (gs : List Gth) : Prop where
  sig : ∀ g ∈ gs, sigB g.round g.letter = true
  last : (ranksMax gs = -1 ∧ lastG gs = (0, 0)) ∨ (0 ≤ ranksMax gs ∧ lastG gs ∈ gs.map sigOf ∧ (lastG gs).2 < 23 ∧ ranksMax gs = ((lastG gs).1 - 1) * 23 + (lastG gs).2)
theorem sigB_is {r l : Int} (h : sigB r l = true) : 1 ≤ r ∧ r ≤ 3 ∧ 0 ≤ l ∧ l ≤ 24 := by simp [sigB, inB] at h; omega
theorem okG_nil : OkG [] := ⟨fun _ h => (by cases h), Or.inl ⟨rfl, rfl⟩⟩

theorem rank_iff {before : List Gth} (h : OkG before) (g : Gth) (hs : sigB g.round g.letter = true) (hm : sigOf g ∉ before.map sigOf) :
    (0 ≤ rankG g ∧ rankG g < ranksMax before) ↔ (g.letter < 23 ∧ behindB g.round g.letter (lastG before).1 (lastG before).2 = false) := by
  have hb := sigB_is hs
  unfold rankG behindB
  rcases h.last with ⟨h1, h2⟩ | ⟨h1, h2, h3, h4⟩
  · rw [h1, h2]
    by_cases hl : 23 ≤ g.letter
    · rw [if_pos hl]; omega
    · rw [if_neg hl, if_neg (by show ¬ g.round = 0; omega), decide_eq_false_iff_not]
      show (_ ∧ _) ↔ (_ ∧ ¬ (0 : Int) < g.round)
      omega
  · have hne : ¬ (g.round = (lastG before).1 ∧ g.letter = (lastG before).2) := fun ⟨e1, e2⟩ => hm (by
      have : sigOf g = lastG before := by unfold sigOf; rw [e1, e2]
      rw [this]; exact h2)
    obtain ⟨q, hq, hqe⟩ := List.mem_map.1 h2
    have hqb := sigB_is (h.sig q hq)
    have e1 : q.round = (lastG before).1 := by rw [← hqe]; rfl
    have e2 : q.letter = (lastG before).2 := by rw [← hqe]; rfl
    rw [h4]
    by_cases hl : 23 ≤ g.letter
    · rw [if_pos hl]; omega
    · rw [if_neg hl]
      by_cases e : g.round = (lastG before).1
      · rw [if_pos e, decide_eq_false_iff_not]
        omega
      · rw [if_neg e, decide_eq_false_iff_not]
        omega

theorem leaves_iff (n : Int) : (n ≠ 1 ∧ (inB 2 12 n = false ∨ n % 2 = 1)) ↔ foldedB n = false := by
  unfold foldedB inB
  by_cases h1 : n = 1
  · simp [h1]
  · simp only [h1, decide_false, Bool.false_or, Bool.and_eq_false_iff, decide_eq_false_iff_not, ne_eq, not_false_eq_true, true_and]
    omega

theorem refGth_is {before : List Gth} (h : OkG before) (g : Gth) : refGth before g = gthErr (before.map sigOf) (lastG before) g := by
  unfold refGth gthErr
  by_cases hs : sigB g.round g.letter = false
  · rw [if_pos hs, if_pos hs]
  rw [if_neg hs, if_neg hs]
  have hs' : sigB g.round g.letter = true := by simpa using hs
  have hm : (before.any (fun h => decide (h.round = g.round ∧ h.letter = g.letter)) = true) ↔ (g.round, g.letter) ∈ before.map sigOf := by
    simp only [List.any_eq_true, decide_eq_true_eq, List.mem_map, sigOf, Prod.mk.injEq]
  by_cases hm' : (g.round, g.letter) ∈ before.map sigOf
  · rw [if_pos (hm.2 hm'), if_pos hm']
  rw [if_neg (fun e => hm' (hm.1 e)), if_neg hm']
  have hr := rank_iff h g hs' hm'
  by_cases hr' : g.letter < 23 ∧ behindB g.round g.letter (lastG before).1 (lastG before).2 = false
  · rw [if_pos hr', if_pos (hr.2 hr')]
  rw [if_neg hr', if_neg (fun e => hr' (hr.1 e))]
  have hl := leaves_iff g.leaves
  by_cases hl' : foldedB g.leaves = false
  · rw [if_pos hl', if_pos (hl.2 hl')]
  rw [if_neg hl', if_neg (fun e => hl' (hl.1 e))]

theorem ranksMax_snoc (gs : List Gth) (g : Gth) : ranksMax (gs ++ [g]) = max (ranksMax gs) (rankG g) := by simp [ranksMax]
theorem lastG_snoc (gs : List Gth) (g : Gth) : lastG (gs ++ [g]) = lastOf (lastG gs) g := by simp [lastG]
theorem okG_snoc {before : List Gth} (h : OkG before) (g : Gth) (h0 : refGth before g = 0) : OkG (before ++ [g]) := by
  unfold refGth at h0
  by_cases hs : sigB g.round g.letter = false
  · rw [if_pos hs] at h0; cases h0
  rw [if_neg hs] at h0
  have hs' : sigB g.round g.letter = true := by simpa using hs
  split at h0
  · cases h0
  split at h0
  · cases h0
  rename_i hr
  have hb := sigB_is hs'
  refine ⟨fun q hq => ?_, ?_⟩
  · rcases List.mem_append.1 hq with hq | hq
    · exact h.sig q hq
    · rw [List.mem_singleton] at hq; rw [hq]; exact hs'
  · rw [ranksMax_snoc, lastG_snoc]
    unfold lastOf
    by_cases hl : g.letter < 23
    · rw [if_pos hl]
      have e : rankG g = (g.round - 1) * 23 + g.letter := if_neg (by omega)
      have hmx : ¬ rankG g < ranksMax before := fun hh => hr ⟨by rw [e]; omega, hh⟩
      refine Or.inr ⟨?_, ?_, hl, ?_⟩
      · rw [e]; omega
      · simp [sigOf]
      · show max _ _ = (g.round - 1) * 23 + g.letter
        omega
    · rw [if_neg hl]
      have e : rankG g = -1 := if_pos (by omega)
      rw [e]
      rcases h.last with ⟨h1, h2⟩ | ⟨h1, h2, h3, h4⟩
      · exact Or.inl ⟨by rw [h1]; rfl, h2⟩
      · exact Or.inr ⟨by omega, by rw [List.map_append]; exact List.mem_append_left _ h2, h3, by omega⟩

/-- The first gathering with an error, behind others. -/
def refGs : List Gth → Nat → List Gth → Nat × Int
  | _, _, [] => (0, 0)
  | before, i, g :: gs => if refGth before g = 0 then refGs (before ++ [g]) (i + 1) gs else (i, refGth before g)
theorem refGs_is : ∀ (gs : List Gth) (before : List Gth) (i : Nat), OkG before → refGs before i gs = gsErr (before.map sigOf) (lastG before) i gs
  | [], _, _, _ => rfl
  | g :: gs, before, i, h => by
    unfold refGs gsErr
    rw [← refGth_is h g]
    by_cases h0 : refGth before g = 0
    · rw [if_pos h0, if_pos h0, refGs_is gs _ _ (okG_snoc h g h0), List.map_append, lastG_snoc]
      rfl
    · rw [if_neg h0, if_neg h0]
end Go.Proofs.YtockagnnpeoggaaGreatDoor
