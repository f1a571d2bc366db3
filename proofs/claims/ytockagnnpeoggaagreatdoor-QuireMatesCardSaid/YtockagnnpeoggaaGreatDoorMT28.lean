/- The parts Pb, Qu, Pd of the proof, joined. It holds without conditions of its own. -/
import Derived.Test.YtockagnnpeoggaaGreatDoorMT8
import Derived.Test.YtockagnnpeoggaaGreatDoorMT27
/- Plain facts of mates. -/
namespace Go.Proofs.YtockagnnpeoggaaGreatDoor
set_option linter.unusedSimpArgs false
set_option linter.unusedVariables false

theorem turned_is {b : Bk} {x : Lf} {g : Gth} (hg : b.gs[x.gat]? = some g) : turnedL b x = ⟨x.gat, g.leaves + 1 - x.num, x.plus, x.kind⟩ := by unfold turnedL; rw [hg]
theorem turned_back {b : Bk} {x : Lf} {g : Gth} (hg : b.gs[x.gat]? = some g) : turnedL b (turnedL b x) = x := by
  rw [turned_is hg, turned_is (by exact hg)]
  obtain ⟨a, n, p, k⟩ := x
  dsimp only
  congr 1
  omega
theorem getL_nat {α : Type} (xs : List α) (i : Nat) : getL xs (i : Int) = xs[i]? := by
  unfold getL
  rw [if_neg (by omega), Int.toNat_natCast]
/-- What is so of a leaf that has a mate. -/
structure MateOk (b : Bk) (i k : Nat) (x y : Lf) (g : Gth) : Prop where
  at_ : (lvs b)[k]? = some y
  gat : y.gat = x.gat
  num : y.num + x.num = g.leaves + 1
  kx : x.kind = 0
  ky : y.kind = 0
  ne : k ≠ i
  back : mateF b k = some i
theorem mate_ok {b : Bk} {i k : Nat} {x : Lf} {g : Gth} (hx : (lvs b)[i]? = some x) (hg : b.gs[x.gat]? = some g) (h : mateF b i = some k) : ∃ y, MateOk b i k x y g := by
  unfold mateF at h
  rw [getL_nat, hx] at h
  dsimp only at h
  split at h
  · rename_i hc
    have hk := find_some h
    have ht := turned_is hg
    refine ⟨turnedL b x, hk, by rw [ht], by rw [ht]; dsimp only; omega, hc.1, by rw [ht]; exact hc.1, fun e => ?_, ?_⟩
    · subst e
      rw [hx] at hk
      exact hc.2 (Option.some.inj hk).symm
    · unfold mateF
      rw [getL_nat, hk]
      dsimp only
      rw [turned_back hg, if_pos ⟨by rw [ht]; exact hc.1, fun e => hc.2 e.symm⟩]
      exact find_at (lvs_sorted b) hx
  · cases h
theorem mate_none {b : Bk} (hok : BOk b) {i : Nat} {x : Lf} {g : Gth} (hx : (lvs b)[i]? = some x) (hg : b.gs[x.gat]? = some g) (h : mateF b i = none) : g.chs ≠ [] ∨ g.leaves = 1 := by
  by_cases hc : g.chs = []
  · refine Or.inr ?_
    have hf := (hok.gs g (List.mem_of_getElem? hg)).folded
    obtain ⟨g', hg', hm⟩ := lvs_mem (List.mem_of_getElem? hx)
    rw [hg] at hg'
    cases hg'
    rw [lvsG_plain hc] at hm
    by_cases h1 : g.leaves = 1
    · exact h1
    exfalso
    have he : g.leaves % 2 = 0 := by
      simp only [foldedB, Bool.or_eq_true, Bool.and_eq_true, decide_eq_true_eq] at hf
      omega
    have ht := turned_is hg
    have hy : turnedL b x ∈ lvs b := mem_lvs hg (by
      rw [lvsG_plain hc, ht]
      exact ⟨rfl, by dsimp only; omega, by dsimp only; omega, hm.2.2.2.1, hm.2.2.2.2⟩)
    obtain ⟨k, hk⟩ := find_mem hy
    unfold mateF at h
    rw [getL_nat, hx] at h
    dsimp only at h
    rw [if_pos ⟨hm.2.2.2.2, fun e => by
      have e' := congrArg Lf.num (ht.symm.trans e)
      dsimp only at e'
      omega⟩, hk] at h
    cases h
  · exact Or.inl hc
end Go.Proofs.YtockagnnpeoggaaGreatDoor

/- Differ: the data, and its errors. -/
namespace Go.Proofs.YtockagnnpeoggaaGreatDoor
set_option linter.unusedSimpArgs false
set_option linter.unusedVariables false
open Go Go.RowKit Go.Sort Go.BigFrame Go.Shelf

abbrev Quad := Int × Int × Int × Int
/-- The name of a leaf. -/
def nameQ (b : Bk) (x : Lf) : Quad := match b.gs[x.gat]? with
  | some g => (g.round, g.letter, x.num, x.plus)
  | none => (0, 0, 0, 0)
def quadV (q : Quad) : List Value := [.int .i64 q.1, .int .i64 q.2.1, .int .i64 q.2.2.1, .int .i64 q.2.2.2]
def quadCells (qs : List Quad) : List Value := qs.flatMap quadV
def namesF (b : Bk) : List Quad := (lvs b).map (nameQ b)
/-- Where two lists differ first. -/
def diffAt (i : Nat) : List Quad → List Quad → Option Nat
  | [], [] => none
  | [], _ :: _ => some i
  | _ :: _, [] => some i
  | x :: xs, y :: ys => if x = y then diffAt (i + 1) xs ys else some i

theorem names_cells (b : Bk) : nmsCells b (lvs b) = quadCells (namesF b) := by
  unfold nmsCells quadCells namesF
  rw [List.flatMap_map]
  have : ∀ xs : List Lf, (∀ x ∈ xs, x ∈ lvs b) → xs.flatMap (nmCells b) = xs.flatMap fun x => quadV (nameQ b x) := fun xs => by
    induction xs with
    | nil => intro _; rfl
    | cons x xs ih =>
      intro h
      obtain ⟨g, hg, -⟩ := lvs_mem (h x (by simp))
      rw [List.flatMap_cons, List.flatMap_cons, ih fun y hy => h y (by simp [hy])]
      simp [nmCells, nameQ, quadV, hg]
  exact this _ fun _ h => h
theorem quad_at : ∀ {qs : List Quad} {i : Nat} {q : Quad}, qs[i]? = some q → (quadCells qs)[i * 4]? = some (.int .i64 q.1) ∧ (quadCells qs)[i * 4 + 1]? = some (.int .i64 q.2.1) ∧ (quadCells qs)[i * 4 + 2]? = some (.int .i64 q.2.2.1) ∧ (quadCells qs)[i * 4 + 3]? = some (.int .i64 q.2.2.2)
  | [], _, _, h => by cases h
  | x :: xs, 0, q, h => by
    simp only [List.getElem?_cons_zero, Option.some.injEq] at h
    subst h
    refine ⟨rfl, rfl, rfl, rfl⟩
  | x :: xs, i + 1, q, h => by
    have h' := quad_at (qs := xs) (i := i) (q := q) (by simpa using h)
    have e : ∀ c, (quadCells (x :: xs))[(i + 1) * 4 + c]? = (quadCells xs)[i * 4 + c]? := fun c => by
      show (quadV x ++ quadCells xs)[(i + 1) * 4 + c]? = _
      rw [List.getElem?_append_right (by simp [quadV]; omega)]
      congr 1
      simp [quadV]; omega
    have e0 := e 0
    simp only [Nat.add_zero] at e0
    rw [e0, e 1, e 2, e 3]
    exact h'

/-- A slice of names. -/
def NmsAt (W : World) (v : Value) (qs : List Quad) : Prop :=
  ∃ (a : Option Addr) (cap : Nat), v = .slice a qs.length cap ∧ (qs ≠ [] → ∃ g, a = some ⟨g, 0, none⟩ ∧ g < W.heap.size ∧
    ∀ i q, qs[i]? = some q → W.cell? ⟨g, i * 4, none⟩ = some (.int .i64 q.1) ∧ W.cell? ⟨g, i * 4 + 1, none⟩ = some (.int .i64 q.2.1) ∧ W.cell? ⟨g, i * 4 + 2, none⟩ = some (.int .i64 q.2.2.1) ∧ W.cell? ⟨g, i * 4 + 3, none⟩ = some (.int .i64 q.2.2.2))
theorem add_off (g j : Nat) : (⟨g, 0, none⟩ : Addr).add j = ⟨g, j, none⟩ := by unfold Addr.add; split <;> simp_all
theorem NmsAt.of_row {W : World} {base : Nat} {v : Value} {e : TypeId} {qs : List Quad} (h : W.ownsRow base e 4 v qs.length (quadCells qs)) : NmsAt W v qs := by
  rcases h.2 with ⟨rfl, h0⟩ | ⟨g, cap, cur, rfl, hb, hg, rest⟩
  · exact ⟨none, 0, by rw [h0], fun hne => absurd (List.length_eq_zero_iff.1 h0) hne⟩
  · refine ⟨_, cap, rfl, fun _ => ⟨g, rfl, blk_lt hg, fun i q hq => ?_⟩⟩
    have hc := h.cells (g := g) (by simp [Value.ownBlock])
    obtain ⟨q1, q2, q3, q4⟩ := quad_at hq
    have c1 := hc _ _ q1
    have c2 := hc _ _ q2
    have c3 := hc _ _ q3
    have c4 := hc _ _ q4
    rw [add_off] at c1 c2 c3 c4
    exact ⟨c1, c2, c3, c4⟩
theorem NmsAt.later {W W' : World} {v : Value} {qs : List Quad} (h : NmsAt W v qs) (hb : Below W.heap.size W W') : NmsAt W' v qs := by
  obtain ⟨a, cap, rfl, h⟩ := h
  refine ⟨a, cap, rfl, fun hne => ?_⟩
  obtain ⟨g, rfl, hg, hc⟩ := h hne
  refine ⟨g, rfl, Nat.lt_of_lt_of_le hg hb.size, fun i q hq => ?_⟩
  obtain ⟨c1, c2, c3, c4⟩ := hc i q hq
  exact ⟨cell_later' hb c1, cell_later' hb c2, cell_later' hb c3, cell_later' hb c4⟩

theorem diff_step {xs ys : List Quad} {k : Nat} {x y : Quad} (hx : xs[k]? = some x) (hy : ys[k]? = some y) (e : x = y) : diffAt k (xs.drop k) (ys.drop k) = diffAt (k + 1) (xs.drop (k + 1)) (ys.drop (k + 1)) := by
  rw [List.drop_eq_getElem?_toList_append, List.drop_eq_getElem?_toList_append (l := ys), hx, hy]
  simp [diffAt, e]
theorem diff_stop {xs ys : List Quad} {k : Nat} {x y : Quad} (hx : xs[k]? = some x) (hy : ys[k]? = some y) (e : x ≠ y) : diffAt k (xs.drop k) (ys.drop k) = some k := by
  rw [List.drop_eq_getElem?_toList_append, List.drop_eq_getElem?_toList_append (l := ys), hx, hy]
  simp [diffAt, e]
theorem diff_end {xs ys : List Quad} {k : Nat} (h : k = min xs.length ys.length) : diffAt k (xs.drop k) (ys.drop k) = if xs.length = ys.length then none else some k := by
  rcases Nat.lt_trichotomy xs.length ys.length with h1 | h1 | h1
  · have e : xs.drop k = [] := List.drop_of_length_le (by omega)
    rw [e, if_neg (by omega)]
    cases hd : ys.drop k with
    | nil => have := congrArg List.length hd; simp at this; omega
    | cons y ys' => rfl
  · have e : xs.drop k = [] := List.drop_of_length_le (by omega)
    have e' : ys.drop k = [] := List.drop_of_length_le (by omega)
    rw [e, e', if_pos h1]; rfl
  · have e : ys.drop k = [] := List.drop_of_length_le (by omega)
    rw [e, if_neg (by omega)]
    cases hd : xs.drop k with
    | nil => have := congrArg List.length hd; simp at this; omega
    | cons y ys' => rfl

theorem quad_cases (x y : Quad) : x = y ∨ (x ≠ y ∧ (¬ x.1 = y.1 ∨ (x.1 = y.1 ∧ ¬ x.2.1 = y.2.1) ∨ (x.1 = y.1 ∧ x.2.1 = y.2.1 ∧ ¬ x.2.2.1 = y.2.2.1) ∨ (x.1 = y.1 ∧ x.2.1 = y.2.1 ∧ x.2.2.1 = y.2.2.1 ∧ ¬ x.2.2.2 = y.2.2.2))) := by
  obtain ⟨a, b, c, d⟩ := x
  obtain ⟨a', b', c', d'⟩ := y
  simp only [Prod.mk.injEq, ne_eq]
  by_cases h1 : a = a' <;> by_cases h2 : b = b' <;> by_cases h3 : c = c' <;> by_cases h4 : d = d' <;> simp [h1, h2, h3, h4]

end Go.Proofs.YtockagnnpeoggaaGreatDoor

/- Plain facts of signed leaves, and of a book with its first gatherings alone. -/
namespace Go.Proofs.YtockagnnpeoggaaGreatDoor
set_option linter.unusedSimpArgs false
set_option linter.unusedVariables false

theorem signs_mem {b : Bk} {t : Nat} : t ∈ signsF b ↔ ∃ x, (lvs b)[t]? = some x ∧ signedL b x = true := by
  unfold signsF signsOf
  simp only [List.mem_map, List.mem_filter]
  constructor
  · rintro ⟨⟨x, i⟩, ⟨h1, h2⟩, rfl⟩
    exact ⟨x, List.mem_zipIdx_iff_getElem?.1 h1, h2⟩
  · rintro ⟨x, h1, h2⟩
    exact ⟨(x, t), ⟨List.mem_zipIdx_iff_getElem?.2 h1, h2⟩, rfl⟩
theorem signs_sorted (b : Bk) : (signsF b).Pairwise (· < ·) := by
  unfold signsF signsOf
  rw [List.pairwise_map]
  have h : ((lvs b).zipIdx).Pairwise (fun x y => x.2 < y.2) := by
    rw [← List.pairwise_map (f := Prod.snd) (R := (· < ·)), List.zipIdx_map_snd]
    exact List.pairwise_lt_range'
  exact h.sublist List.filter_sublist
theorem lvs_plus {b : Bk} {x : Lf} (h : x ∈ lvs b) (hk : x.kind ≠ 2) : x.plus = 0 := by
  obtain ⟨g, _, hm⟩ := lvs_mem h
  simp only [lvsG, List.mem_flatMap] at hm
  obtain ⟨k, _, hm⟩ := hm
  simp only [lvsNum, List.mem_append, List.mem_map] at hm
  rcases hm with hm | ⟨j, _, hm⟩
  · split at hm
    · rw [List.mem_singleton] at hm
      exact congrArg Lf.plus hm
    · cases hm
  · exact absurd (congrArg Lf.kind hm).symm hk
theorem signed_is {b : Bk} {x : Lf} (h : signedL b x = true) : ∃ g, b.gs[x.gat]? = some g ∧ g.letter < 23 ∧ x.kind ≠ 2 ∧ x.num ≤ b.signed := by
  unfold signedL at h
  split at h
  · rename_i g hg
    simp only [signedB, Bool.and_eq_true, decide_eq_true_eq, bne_iff_ne] at h
    exact ⟨g, hg, h.1.1, h.1.2, h.2⟩
  · cases h
theorem signed_great {b : Bk} {s : Int} {x : Lf} (hs : b.signed ≤ s) (h : signedL b x = true) : signedL ⟨s, b.gs⟩ x = true := by
  obtain ⟨g, h1, h2, h3, h4⟩ := signed_is h
  unfold signedL
  dsimp only
  rw [h1]
  simp only [signedB, Bool.and_eq_true, decide_eq_true_eq, bne_iff_ne]
  exact ⟨⟨h2, h3⟩, by omega⟩
theorem lvs_gs (s : Int) (b : Bk) : lvs ⟨s, b.gs⟩ = lvs b := rfl
theorem signs_great {b : Bk} {s : Int} (hs : b.signed ≤ s) {t : Nat} (h : t ∈ signsF b) : t ∈ signsF ⟨s, b.gs⟩ := by
  obtain ⟨x, h1, h2⟩ := signs_mem.1 h
  exact signs_mem.2 ⟨x, by rw [lvs_gs]; exact h1, signed_great hs h2⟩
theorem err_is {b : Bk} (h : errF b = 0) : inB 0 12 b.signed = true ∧ inB 1 30 b.gs.length = true ∧ (gsErr [] (0, 0) 0 b.gs).2 = 0 := by
  unfold errF checkF at h
  by_cases h1 : inB 0 12 b.signed = false
  · rw [if_pos h1] at h; simp at h
  rw [if_neg h1] at h
  by_cases h2 : inB 1 30 b.gs.length = false
  · rw [if_pos h2] at h; simp at h
  rw [if_neg h2] at h
  by_cases h3 : (gsErr [] (0, 0) 0 b.gs).2 = 0
  · exact ⟨by simpa using h1, by simpa using h2, h3⟩
  · rw [if_neg h3] at h; exact absurd h h3
theorem err_of {b : Bk} (h1 : inB 0 12 b.signed = true) (h2 : inB 1 30 b.gs.length = true) (h3 : (gsErr [] (0, 0) 0 b.gs).2 = 0) : errF b = 0 := by
  unfold errF checkF
  rw [if_neg (by rw [h1]; decide), if_neg (by rw [h2]; decide), if_pos h3]
theorem err_great {b : Bk} {s : Int} (h : errF b = 0) (h0 : 0 ≤ s) (h1 : s ≤ 12) : errF ⟨s, b.gs⟩ = 0 := by
  obtain ⟨_, h3, h4⟩ := err_is h
  exact err_of (by rw [inB_iff]; exact ⟨h0, h1⟩) h3 h4
theorem gsErr_take : ∀ (gs : List Gth) (k : Nat) (seen : List (Int × Int)) (last : Int × Int) (i : Nat), (gsErr seen last i gs).2 = 0 → (gsErr seen last i (gs.take k)).2 = 0
  | [], k, _, _, _, _ => by simp [gsErr]
  | g :: gs, 0, _, _, _, _ => by simp [gsErr]
  | g :: gs, k + 1, seen, last, i, h => by
    rw [List.take_succ_cons]
    unfold gsErr at h ⊢
    by_cases h0 : gthErr seen last g = 0
    · rw [if_pos h0] at h ⊢
      exact gsErr_take gs k _ _ _ h
    · rw [if_neg h0] at h ⊢
      exact h
theorem err_take {b : Bk} {k : Nat} (h : errF b = 0) (h1 : 1 ≤ k) (h2 : k ≤ b.gs.length) : errF ⟨b.signed, b.gs.take k⟩ = 0 := by
  obtain ⟨h3, h4, h5⟩ := err_is h
  rw [inB_iff] at h4
  exact err_of h3 (by rw [inB_iff]; dsimp only; rw [List.length_take]; omega) (gsErr_take _ _ _ _ _ h5)
theorem lvs_part (b : Bk) (k : Nat) : ∃ rest, lvs b = lvs ⟨b.signed, b.gs.take k⟩ ++ rest := by
  refine ⟨lvsFrom (0 + (b.gs.take k).length) (b.gs.drop k), ?_⟩
  show lvsFrom 0 b.gs = lvsFrom 0 (b.gs.take k) ++ _
  rw [← lvsFrom_app, List.take_append_drop]
theorem names_part (b : Bk) (k : Nat) (rest : List Lf) (h : lvs b = lvs ⟨b.signed, b.gs.take k⟩ ++ rest) : namesF b = namesF ⟨b.signed, b.gs.take k⟩ ++ rest.map (nameQ b) := by
  unfold namesF
  rw [h, List.map_append]
  congr 1
  apply List.map_congr_left
  intro x hx
  obtain ⟨g, hg, _⟩ := lvs_mem hx
  dsimp only at hg
  have hg' := hg
  rw [List.getElem?_take] at hg'
  split at hg'
  · unfold nameQ
    dsimp only
    rw [hg, hg']
  · cases hg'
theorem diffAt_part : ∀ (xs ys : List Quad) (i : Nat), diffAt i xs (xs ++ ys) = if ys = [] then none else some (i + xs.length)
  | [], [], i => by simp [diffAt]
  | [], y :: ys, i => by simp [diffAt]
  | x :: xs, ys, i => by
    rw [List.cons_append, diffAt, if_pos rfl, diffAt_part xs ys (i + 1)]
    split
    · rfl
    · rw [List.length_cons]
      congr 1
      omega
end Go.Proofs.YtockagnnpeoggaaGreatDoor
