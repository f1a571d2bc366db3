/- The parts Pm, Rr, Wg of the proof, joined. It holds without conditions of its own. -/
import Derived.Test.YtimdmgkegdlafaaGreatDoorRO27
import Derived.Test.YtimdmgkegdlafaaGreatDoorRO38
import Derived.Test.YtimdmgkegdlafaaGreatDoorRO20
import Derived.Test.YtimdmgkegdlafaaGreatDoorRO22
import Derived.Test.YtimdmgkegdlafaaGreatDoorRO6
import Derived.Test.YtimdmgkegdlafaaGreatDoorRO37
import Derived.Test.YtimdmgkegdlafaaGreatDoorRO8
/- Plain facts: what is written is read back; no formula that is read as a book is shorter than the one that is written of it. -/
namespace Go.Proofs.YtimdmgkegdlafaaGreatDoor
set_option linter.unusedSimpArgs false
set_option linter.unusedVariables false

theorem sigT_few {r l : Int} (h : sigB r l = true) : (sigT r l).length ≤ 4 := by
  have hb : 1 ≤ r ∧ r ≤ 3 ∧ 0 ≤ l ∧ l ≤ 24 := by simp [sigB, inB] at h; omega
  have hl := letterT_len l
  unfold sigT
  rw [List.length_append]
  have hd : (dec r).length = 1 := by
    unfold dec decN
    rw [if_pos (by omega)]
    rfl
  split <;> simp <;> omega
theorem dec_pos1 (n : Int) : 1 ≤ (dec n).length := by
  unfold dec decN
  split <;> simp
theorem GOk.chW {g : Gth} (h : GOk g) : ∀ c ∈ g.chs, ChW c := fun c hc => by
  obtain ⟨h1, h2, h3, h4, h5⟩ := h.ch hc
  have := h.leaves
  refine ⟨h1, ⟨h2, by omega⟩, ⟨h4, by omega⟩, fun hk => ?_⟩
  obtain ⟨-, hr⟩ := chsErr_zero h.chs c hc
  unfold rangeB at hr
  rw [if_neg hk] at hr
  simp only [Bool.and_eq_true, decide_eq_true_eq] at hr
  exact hr.2
theorem itm1_w {g : Gth} (h : GOk g) : ItW (itm1 g) := ⟨h.sig, h.sig, by have := h.leaves; exact ⟨by show 0 ≤ g.leaves; omega, by show g.leaves ≤ 12; omega⟩, h.few, h.chW, Or.inl ⟨rfl, rfl, rfl⟩⟩
theorem itmW_len {x : Itm} (h : ItW x) : (itmT x).length ≤ 32 := by
  have h1 := sigT_few h.first
  have h2 := sigT_few h.last
  have h3 := dec_len x.leaves
  have h4 := chsT_len h.few
  unfold itmT
  rcases h.kind with ⟨hk, -, -⟩ | ⟨hk, -, -, -, hc⟩
  · rw [if_neg (by omega)]
    simp only [List.length_append]
    omega
  · rw [if_pos hk, hc]
    simp [chsT]
    omega
theorem itemsW_len : ∀ (xs : List Itm), (∀ x ∈ xs, ItW x) → (itemsT xs).length ≤ xs.length * 33
  | [], _ => by simp [itemsT]
  | x :: xs, h => by
    have h1 := itmW_len (h x (by simp))
    have h2 := itemsW_len xs (fun y hy => h y (List.mem_cons_of_mem _ hy))
    rw [itemsT_cons]
    simp only [List.length_append, List.length_cons]
    omega
theorem itmsOf_few : ∀ (gs : List Gth) (ys : List Itm), (gs.foldl itmStep ys).length ≤ ys.length + gs.length
  | [], ys => by simp
  | g :: gs, ys => by
    have h := itmsOf_few gs (itmStep ys g)
    have h1 : (itmStep ys g).length ≤ ys.length + 1 := by
      rcases nil_or_snoc ys with rfl | ⟨zs, y, rfl⟩
      · simp [itmStep]
      · cases ht : takesB y g with
        | true => rw [step_yes ht]; simp
        | false => rw [step_no ht]; simp
    rw [List.foldl_cons, List.length_cons]
    omega

theorem rank_next' {s : Int × Int} (h : s.2 < 23) : rankS (nextS s.1 s.2).1 (nextS s.1 s.2).2 = rankS s.1 s.2 + 1 := rank_next h
theorem runS_snoc : ∀ (n : Nat) (s l : Int × Int), 0 ≤ s.2 ∧ s.2 < 23 → 0 ≤ l.2 ∧ l.2 < 23 → rankS l.1 l.2 = rankS s.1 s.2 + n → runS (n + 1) s (nextS l.1 l.2) = runS n s l ++ [nextS l.1 l.2]
  | 0, s, l, hs, hl, hr => by
    obtain ⟨h1, h2⟩ := rank_inj (r := l.1) (r' := s.1) hl hs (by simpa using hr)
    have e : l = s := Prod.ext h1 h2
    subst e
    have hn := rank_next' hl.2
    have hne : l ≠ nextS l.1 l.2 := fun e => by
      rw [← e] at hn
      omega
    show (if l = nextS l.1 l.2 then [l] else [l, nextS l.1 l.2]) = _
    rw [if_neg hne]
    rfl
  | n + 1, s, l, hs, hl, hr => by
    have hn := rank_next' hl.2
    have hns := rank_next' hs.2
    have hne : s ≠ nextS l.1 l.2 := fun e => by
      rw [← e] at hn
      omega
    have hne2 : s ≠ l := fun e => by
      rw [← e] at hr
      omega
    have ho := nextS_ok (r := s.1) hs
    rw [runS, if_neg hne, runS_snoc n (nextS s.1 s.2) l ⟨ho.1, ho.2.1⟩ hl (by omega)]
    conv => rhs; rw [runS, if_neg hne2]
    rfl
theorem runS_head (n : Nat) (s l : Int × Int) : runS n s l = s :: (runS n s l).tail := by
  cases n with
  | zero => rfl
  | succ n =>
    unfold runS
    split <;> rfl
theorem takes_iff {y : Itm} {g : Gth} : takesB y g = true ↔ y.chs = [] ∧ g.chs = [] ∧ y.leaves = g.leaves ∧ y.ll < 23 ∧ nextS y.lr y.ll = (g.round, g.letter) := by
  unfold takesB
  simp only [Bool.and_eq_true, decide_eq_true_eq, List.length_eq_zero_iff]
  constructor
  · rintro ⟨⟨⟨⟨a, b⟩, c⟩, d⟩, e⟩
    exact ⟨a, b, c, d, e⟩
  · rintro ⟨a, b, c, d, e⟩
    exact ⟨⟨⟨⟨a, b⟩, c⟩, d⟩, e⟩
theorem sigB_iff {r l : Int} : sigB r l = true ↔ 1 ≤ r ∧ r ≤ 3 ∧ 0 ≤ l ∧ l ≤ 24 := by simp [sigB, inB]; omega
/-- An item that goes on. -/
theorem itmGs_more {y : Itm} {g : Gth} (hy : ItW y) (hg : GOk g) (ht : takesB y g = true) : ItW { y with kind := 1, lr := g.round, ll := g.letter } ∧ itmGs { y with kind := 1, lr := g.round, ll := g.letter } = itmGs y ++ [g] := by
  obtain ⟨h1, h2, h3, h4, h5⟩ := takes_iff.1 ht
  have hf := sigB_iff.1 hy.first
  have hl := sigB_iff.1 hy.last
  obtain ⟨gr, gl, gv, gc⟩ := g
  obtain ⟨yk, yfr, yfl, ylr, yll, yv, yc⟩ := y
  dsimp only at h1 h2 h3 h4 h5 hf hl
  subst h1 h2 h3
  have ho := nextS_ok (r := ylr) (l := yll) ⟨hl.2.2.1, h4⟩
  have hn := rank_next (r := ylr) h4
  rw [h5] at ho hn
  dsimp only at ho hn
  have hk : yfl < 23 ∧ rankS yfr yfl ≤ rankS ylr yll := by
    rcases hy.kind with ⟨-, e1, e2⟩ | ⟨-, e1, e2, e3, -⟩
    · dsimp only at e1 e2
      subst e1 e2
      exact ⟨h4, Int.le_refl _⟩
    · dsimp only at e1 e2 e3
      have := rank_behind ⟨hl.2.2.1, e2⟩ ⟨hf.2.2.1, e1⟩ e3
      exact ⟨e1, by omega⟩
  refine ⟨⟨hy.first, hg.sig, hy.leaves, by simp, fun c hc => (by cases hc), Or.inr ⟨rfl, hk.1, ho.2.1, ?_, rfl⟩⟩, ?_⟩
  · show behindB gr gl yfr yfl = true
    unfold behindB
    have hr : rankS yfr yfl < rankS gr gl := by omega
    unfold rankS at hr
    split
    · subst_vars
      exact decide_eq_true (by omega)
    · exact decide_eq_true (by omega)
  · have hs := runS_snoc (rankS ylr yll - rankS yfr yfl).toNat (yfr, yfl) (ylr, yll) ⟨hf.2.2.1, hk.1⟩ ⟨hl.2.2.1, h4⟩ (by dsimp only; omega)
    dsimp only at hs
    rw [h5] at hs
    have hz : (rankS gr gl - rankS yfr yfl).toNat = (rankS ylr yll - rankS yfr yfl).toNat + 1 := by omega
    show (if (1 : Int) = 0 then _ else (runS (rankS gr gl - rankS yfr yfl).toNat (yfr, yfl) (gr, gl)).map fun s => (⟨s.1, s.2, yv, []⟩ : Gth)) = _
    rw [if_neg (by omega), hz, hs, List.map_append]
    congr 1
    unfold itmGs
    dsimp only
    rcases hy.kind with ⟨e0, e1, e2⟩ | ⟨e0, -⟩
    · dsimp only at e0 e1 e2
      subst e0 e1 e2
      rw [if_pos rfl, runS_stop]
      rfl
    · dsimp only at e0
      subst e0
      rw [if_neg (by omega)]
theorem gsOf_snoc (xs : List Itm) (y : Itm) : gsOf (xs ++ [y]) = gsOf xs ++ itmGs y := by simp [gsOf]
/-- The items of gatherings are read as these. -/
theorem itmsOf_back : ∀ (gs : List Gth) (ys : List Itm), (∀ g ∈ gs, GOk g) → (∀ y ∈ ys, ItW y) → gsOf (gs.foldl itmStep ys) = gsOf ys ++ gs ∧ ∀ y ∈ gs.foldl itmStep ys, ItW y
  | [], ys, _, hy => ⟨by simp, hy⟩
  | g :: gs, ys, hg, hy => by
    have hg0 := hg g (by simp)
    have hs : gsOf (itmStep ys g) = gsOf ys ++ [g] ∧ ∀ y ∈ itmStep ys g, ItW y := by
      have hnew : gsOf (ys ++ [itm1 g]) = gsOf ys ++ [g] := by rw [gsOf_snoc]; rfl
      have hnw : ∀ y ∈ ys ++ [itm1 g], ItW y := fun y h => by
        rcases List.mem_append.1 h with h | h
        · exact hy y h
        · rw [List.mem_singleton.1 h]
          exact itm1_w hg0
      rcases nil_or_snoc ys with rfl | ⟨zs, y, rfl⟩
      · exact ⟨hnew, hnw⟩
      · cases ht : takesB y g with
        | false =>
          rw [step_no ht]
          exact ⟨hnew, hnw⟩
        | true =>
          rw [step_yes ht]
          obtain ⟨h1, h2⟩ := itmGs_more (hy y (by simp)) hg0 ht
          refine ⟨by rw [gsOf_snoc, gsOf_snoc, h2, List.append_assoc], fun x hx => ?_⟩
          rcases List.mem_append.1 hx with hx | hx
          · exact hy x (List.mem_append_left _ hx)
          · rw [List.mem_singleton.1 hx]
            exact h1
    obtain ⟨h1, h2⟩ := itmsOf_back gs (itmStep ys g) (fun x hx => hg x (List.mem_cons_of_mem _ hx)) hs.2
    exact ⟨by rw [List.foldl_cons, h1, hs.1]; simp, h2⟩
theorem write_len {b : Bk} (he : errF b = 0) : (writeF b).length ≤ 1000 := by
  have hb := errF_zero he
  obtain ⟨-, h2⟩ := itmsOf_back b.gs [] hb.gs (fun y hy => by cases hy)
  have h3 := itemsW_len _ h2
  have h4 := itmsOf_few b.gs []
  have h5 := hb.len
  have h6 := dec_len b.signed
  show (formulaT b.signed (itmsOf b.gs)).length ≤ 1000
  rw [formulaT_is]
  unfold itmsOf
  simp only [List.length_append, List.length_cons, List.length_nil] at h4 ⊢
  omega
theorem allF_book {s : Bs} {b : Bk} (h : bookF s = some (b, [])) : allF (bookF s) = some b := by rw [h]; rfl
theorem write_read {b : Bk} (he : errF b = 0) : readF (writeF b) = (b, 0) := by
  have hb := errF_zero he
  obtain ⟨h1, h2⟩ := itmsOf_back b.gs [] hb.gs (fun y hy => by cases hy)
  have hl := write_len he
  have hk : bookF (writeF b) = some (b, []) := by
    have h := bookF_text h2 hb.signed.1 hb.signed.2
    rw [h1] at h
    exact h
  unfold readF
  rw [if_neg (by omega), allF_book hk]
  dsimp only
  rw [if_pos he]

/-- What a step onto the last item adds. -/
theorem ext_len (y : Itm) (r l : Int) : (itmT { y with kind := 1, lr := r, ll := l }).length + (if y.kind = 1 then 1 + (sigT y.lr y.ll).length else 0) = (itmT y).length + 1 + (sigT r l).length := by
  unfold itmT
  rw [if_pos rfl]
  split <;> simp <;> omega
theorem run_fold (lv : Int) : ∀ (n : Nat) (s l : Int × Int) (zs : List Itm) (y : Itm), rankS l.1 l.2 = rankS s.1 s.2 + n → (0 ≤ s.2 ∧ s.2 < 23) → (0 ≤ l.2 ∧ l.2 < 23) → y.lr = s.1 → y.ll = s.2 → y.leaves = lv → y.chs = [] →
    ((runS n s l).tail.map fun s => (⟨s.1, s.2, lv, []⟩ : Gth)).foldl itmStep (zs ++ [y]) = zs ++ [if n = 0 then y else { y with kind := 1, lr := l.1, ll := l.2 }]
  | 0, s, l, zs, y, _, _, _, _, _, _, _ => by simp [runS]
  | n + 1, s, l, zs, y, hr, hs, hl, h1, h2, h3, h4 => by
    have hne : s ≠ l := fun e => by
      rw [← e] at hr
      omega
    have hns := rank_next' hs.2
    have ho := nextS_ok (r := s.1) hs
    have ht : takesB y ⟨(nextS s.1 s.2).1, (nextS s.1 s.2).2, lv, []⟩ = true := takes_iff.2 ⟨h4, rfl, h3, by omega, by rw [h1, h2]⟩
    have e : (runS (n + 1) s l).tail = nextS s.1 s.2 :: (runS n (nextS s.1 s.2) l).tail := by
      rw [← runS_head, runS, if_neg hne]
      rfl
    have hgo := run_fold lv n (nextS s.1 s.2) l zs { y with kind := 1, lr := (nextS s.1 s.2).1, ll := (nextS s.1 s.2).2 } (by omega) ⟨ho.1, ho.2.1⟩ hl rfl rfl h3 h4
    rw [e, List.map_cons, List.foldl_cons, step_yes ht, if_neg (Nat.succ_ne_zero n)]
    refine hgo.trans ?_
    split
    · rename_i hn
      subst hn
      obtain ⟨e1, e2⟩ := rank_inj (r := l.1) (r' := (nextS s.1 s.2).1) hl ⟨ho.1, ho.2.1⟩ (by omega)
      rw [e1, e2]
    · rfl
theorem itmT_one {x : Itm} (hk : x.kind = 0) : itmT (itm1 ⟨x.fr, x.fl, x.leaves, x.chs⟩) = itmT x := by
  unfold itmT itm1
  dsimp only
  rw [if_neg (by omega), if_neg (by omega)]
/-- One more item: as it is, or shorter. -/
theorem add_item (ys : List Itm) {x : Itm} (hx : ItW x) : itemsT ((itmGs x).foldl itmStep ys) = itemsT ys ++ itmT x ++ [32] ∨ (itemsT ((itmGs x).foldl itmStep ys)).length < (itemsT ys).length + (itmT x).length + 1 := by
  have hf := sigB_iff.1 hx.first
  have hl := sigB_iff.1 hx.last
  have hd := dec_pos1 x.leaves
  rcases hx.kind with ⟨hk, -, -⟩ | ⟨hk, k1, k2, k3, hc⟩
  · have hg : itmGs x = [⟨x.fr, x.fl, x.leaves, x.chs⟩] := by unfold itmGs; rw [if_pos hk]
    have hxl : (itmT x).length = (sigT x.fr x.fl).length + (dec x.leaves).length + (chsT x.chs).length := by
      unfold itmT
      rw [if_neg (by omega)]
      simp only [List.length_append]
    rw [hg, List.foldl_cons, List.foldl_nil]
    rcases nil_or_snoc ys with rfl | ⟨zs, y, rfl⟩
    · left
      show itemsT ([] ++ [itm1 _]) = _
      rw [itemsT_snoc, itmT_one hk]
    · cases ht : takesB y ⟨x.fr, x.fl, x.leaves, x.chs⟩ with
      | false =>
        left
        rw [step_no ht, itemsT_snoc, itmT_one hk]
      | true =>
        right
        have h := ext_len y x.fr x.fl
        rw [step_yes ht, itemsT_snoc, itemsT_snoc]
        simp only [List.length_append, List.length_singleton]
        omega
  · have hr := rank_behind ⟨hl.2.2.1, k2⟩ ⟨hf.2.2.1, k1⟩ k3
    obtain ⟨n, hn⟩ : ∃ n, n = (rankS x.lr x.ll - rankS x.fr x.fl).toNat := ⟨_, rfl⟩
    have hg : itmGs x = (⟨x.fr, x.fl, x.leaves, []⟩ : Gth) :: ((runS n (x.fr, x.fl) (x.lr, x.ll)).tail.map fun s => (⟨s.1, s.2, x.leaves, []⟩ : Gth)) := by
      unfold itmGs
      rw [if_neg (by omega), ← hn, runS_head, List.map_cons]
      rfl
    have hxl : (itmT x).length = (sigT x.fr x.fl).length + 1 + (sigT x.lr x.ll).length + (dec x.leaves).length := by
      unfold itmT
      rw [if_pos hk, hc]
      simp only [chsT, if_true, List.length_append, List.length_cons, List.length_nil]
      omega
    have hrun := fun (zs : List Itm) (y : Itm) => run_fold x.leaves n (x.fr, x.fl) (x.lr, x.ll) zs y (by dsimp only; omega) ⟨hf.2.2.1, k1⟩ ⟨hl.2.2.1, k2⟩
    have hnew : ∀ zs : List Itm, itemsT (((runS n (x.fr, x.fl) (x.lr, x.ll)).tail.map fun s => (⟨s.1, s.2, x.leaves, []⟩ : Gth)).foldl itmStep (zs ++ [itm1 ⟨x.fr, x.fl, x.leaves, []⟩])) = itemsT zs ++ itmT x ++ [32] := fun zs => by
      have h := hrun zs (itm1 ⟨x.fr, x.fl, x.leaves, []⟩) rfl rfl rfl rfl
      rw [h, if_neg (by omega), itemsT_snoc]
      congr 2
      unfold itmT itm1
      dsimp only
      rw [if_pos rfl, if_pos hk, hc]
    rw [hg, List.foldl_cons]
    rcases nil_or_snoc ys with rfl | ⟨zs, y, rfl⟩
    · exact Or.inl (hnew [])
    · cases ht : takesB y ⟨x.fr, x.fl, x.leaves, []⟩ with
      | false =>
        left
        rw [step_no ht]
        exact hnew _
      | true =>
        right
        obtain ⟨t1, -, t3, -, -⟩ := takes_iff.1 ht
        have h2 := hrun zs { y with kind := 1, lr := x.fr, ll := x.fl } rfl rfl t3 t1
        rw [step_yes ht]
        refine Nat.lt_of_le_of_lt (Nat.le_of_eq (congrArg (fun z => (itemsT z).length) h2)) ?_
        dsimp only
        rw [if_neg (by omega), itemsT_snoc, itemsT_snoc]
        have h := ext_len y x.lr x.ll
        simp only [List.length_append, List.length_singleton]
        omega
theorem add_items : ∀ (xs ys : List Itm), (∀ x ∈ xs, ItW x) → itemsT ((gsOf xs).foldl itmStep ys) = itemsT ys ++ itemsT xs ∨ (itemsT ((gsOf xs).foldl itmStep ys)).length < (itemsT ys).length + (itemsT xs).length
  | [], ys, _ => by left; simp [gsOf, itemsT]
  | x :: xs, ys, h => by
    have e : gsOf (x :: xs) = itmGs x ++ gsOf xs := by simp [gsOf]
    rw [e, List.foldl_append]
    have h1 := add_item ys (h x (by simp))
    have h2 := add_items xs ((itmGs x).foldl itmStep ys) (fun y hy => h y (List.mem_cons_of_mem _ hy))
    rw [itemsT_cons]
    rcases h1 with h1 | h1
    · rcases h2 with h2 | h2
      · left
        rw [h2, h1]
        simp
      · right
        rw [h1] at h2
        simp only [List.length_append, List.length_cons, List.length_nil] at h2 ⊢
        omega
    · right
      rcases h2 with h2 | h2
      · rw [h2]
        simp only [List.length_append, List.length_cons]
        omega
      · simp only [List.length_append, List.length_cons]
        omega
/-- **No formula of a book is shorter than the one that is written, and another one is longer.** -/
theorem write_short {s : Bs} {b : Bk} (h : allF (bookF s) = some b) : s = writeF b ∨ (writeF b).length < s.length := by
  obtain ⟨xs, rfl, hg, hw, -, -⟩ := bookF_is h
  have h1 := add_items xs [] hw
  rw [← hg] at h1
  show _ ∨ (formulaT b.signed (itmsOf b.gs)).length < _
  show _ = formulaT b.signed (itmsOf b.gs) ∨ _
  rw [formulaT_is]
  unfold itmsOf
  rcases h1 with h1 | h1
  · left
    rw [h1]
    rfl
  · right
    have e0 : (itemsT ([] : List Itm)).length = 0 := rfl
    simp only [List.length_append, List.length_cons]
    omega
end Go.Proofs.YtimdmgkegdlafaaGreatDoor

/- Contract of Read. -/
namespace Go.Proofs.YtimdmgkegdlafaaGreatDoor
set_option linter.unusedSimpArgs false
set_option linter.unusedVariables false
open Go Go.RowKit Go.Sort Go.BigFrame

/-- What Read hands back. -/
def ReadR (r : Bk × Int) (w : World) (e : Ending) (w' : World) : Prop :=
  (∃ v, e = .returned (.tuple #[v, .int .i64 r.2]) ∧ BookIn w.heap.size w' v r.1) ∧ Below w.heap.size w w'

theorem BookIn.none (lo : Nat) (W : World) : BookIn lo W (.agg #[.int .i64 0, .slice none 0 0]) ⟨0, []⟩ := ⟨_, rfl, [], rfl, World.ownsRow_nil _ _ _ _, fun z hz => (by cases hz)⟩
theorem checkR_eq' (b : Bk) : checkR b = .tuple #[.int .i64 (checkF b).1, .int .i64 (checkF b).2.1, .int .i64 (errF b)] := rfl
theorem BookIn.only {lo : Nat} {W W' : World} {v : Value} {b : Bk} {X : Nat → Prop} (h : BookIn lo W v b) (ho : OnlyIn X W W') (hX : ∀ k, X k → k < lo) : BookIn lo W' v b := by
  obtain ⟨sv, he, hg⟩ := h
  exact ⟨sv, he, hg.only ho hX⟩
theorem BookIn.mono {lo lo' : Nat} {W : World} {v : Value} {b : Bk} (h : BookIn lo W v b) (hl : lo' ≤ lo) : BookIn lo' W v b := by
  obtain ⟨sv, he, hg⟩ := h
  exact ⟨sv, he, hg.mono hl⟩
theorem BookIn.shape {lo : Nat} {W : World} {v : Value} {b : Bk} (h : BookIn lo W v b) : ∃ a n c, v = .agg #[.int .i64 b.signed, .slice a n c] := by
  obtain ⟨sv, rfl, zs, -, hrow, -⟩ := h
  rcases hrow.2 with ⟨rfl, -⟩ | ⟨g', cap, cur, rfl, -⟩
  · exact ⟨_, _, _, rfl⟩
  · exact ⟨_, _, _, rfl⟩

set_option maxRecDepth 100000 in
set_option maxHeartbeats 4000000 in
theorem Read_any (s : Bs) (w : World) (hs : s.length ≤ 9223372036854775807) :
    Calls Tryz.prog 9 #[S s] w (ReadR (readF s) w) := by
  by_cases h1 : 1000 < s.length
  · have hF : Hid (readF s = (⟨0, []⟩, 3)) := by show _ = _; simp [readF, h1]
    have hz : (1000 : Int) < (s.length : Int) := by omega
    go_enter Tryz.func9, Tryz.ntmps9
    go_wp2_with fail
    refine bodyPost_ret (v := .tuple #[.agg #[.int .i64 0, .slice none 0 0], .int .i64 3]) (by simp [results, Tryz.results9, go_sem]) rfl ?_
    rw [hF.out]
    exact ⟨⟨_, rfl, BookIn.none _ _⟩, (by repeat (first | exact Below.refl _ _ | assumption | (refine Below.alloc ?_ ?_ _; rotate_left; · (first | omega | (simp; done) | (simp; omega) | fail)) | (refine Below.setCell ?_ ?_ _; rotate_left; · (first | omega | (simp; done) | (simp; omega) | fail)) | refine Below.drew ?_ | fail))⟩
  · have hz : ¬ (1000 : Int) < (s.length : Int) := by omega
    have hsl : s.length ≤ 1000 := by omega
    obtain ⟨w1, hw1⟩ : ∃ w1, w1 = w.alloc (.cells #[.int .i64 0, .slice none 0 0] 24) := ⟨_, rfl⟩
    have p1 : w1.heap[w.heap.size]? = some (.cells #[.int .i64 0, .slice none 0 0] 24) := by rw [hw1]; exact (by repeat (first | exact heap_alloc_at _ _ _ (by (first | omega | (simp; done) | (simp; omega) | fail)) | (refine (heap_alloc_past _ _ _ ?_).trans ?_; · (first | omega | (simp; done) | (simp; omega) | fail)) | fail))
    have hb1 : Below w.heap.size w w1 := by rw [hw1]; exact (by repeat (first | exact Below.refl _ _ | assumption | (refine Below.alloc ?_ ?_ _; rotate_left; · (first | omega | (simp; done) | (simp; omega) | fail)) | (refine Below.setCell ?_ ?_ _; rotate_left; · (first | omega | (simp; done) | (simp; omega) | fail)) | refine Below.drew ?_ | fail))
    have HP := Lib.hid p1
    have HB := Lib.hid hb1
    have hz1 := blk_lt p1
    have HR : Hid (readF s = match allF (bookF s) with | none => (⟨0, []⟩, 6) | some b => if errF b = 0 then (b, 0) else (⟨0, []⟩, 6)) := by show _ = _; unfold readF; rw [if_neg h1]; cases allF (bookF s) <;> rfl
    go_enter Tryz.func9, Tryz.ntmps9
    go_wp2_with fail
    rw [← hw1]
    clear hw1 p1 hb1 h1
    refine (parseB_any s _ hsl).mono ?_
    intro e w2 hp
    cases hl : allF (bookF s) with
    | none =>
      rw [hl] at hp
      obtain ⟨rfl, hb⟩ := hp
      have hF : Hid (readF s = (⟨0, []⟩, 6)) := by show _ = _; rw [HR.out, hl]
      have HP2 := Lib.hid (blk_later hb HP.out)
      have HB2 := Lib.hid (HB.out.trans (hb.mono (by omega)))
      have c0 := blk_cell HP2.out 0; have c1 := blk_cell HP2.out 1
      have f0 := blk_free HP2.out 0; have f1 := blk_free HP2.out 1
      have hz2 := blk_lt HP2.out
      clear hb hl
      go_wp2_with fail
      refine bodyPost_ret (v := .tuple #[.agg #[.int .i64 0, .slice none 0 0], .int .i64 6]) (by simp [results, Tryz.results9, go_sem, c0, c1, hz2, World.cell?_alloc_past]) rfl ?_
      rw [hF.out]
      exact ⟨⟨_, rfl, BookIn.none _ _⟩, (by repeat (first | (refine Below.setCell ?_ ?_ _; rotate_left; · (first | omega | (simp; done) | (simp; omega) | fail)) | (refine Below.alloc ?_ ?_ _; rotate_left; · (first | omega | (simp; done) | (simp; omega) | fail)) | refine Below.drew ?_ | exact HB2.out | fail))⟩
    | some b =>
      rw [hl] at hp
      obtain ⟨⟨v, rfl, hv⟩, hb⟩ := hp
      have HV := Lib.hid hv
      obtain ⟨a, n, c, rfl⟩ := hv.shape
      have HR2 : Hid (readF s = if errF b = 0 then (b, 0) else (⟨0, []⟩, 6)) := by show _ = _; rw [HR.out, hl]
      have HP2 := Lib.hid (blk_later hb HP.out)
      have HB2 := Lib.hid (HB.out.trans (hb.mono (by omega)))
      have hz2 := blk_lt HP2.out
      clear hb hl hv
      go_wp2_with fail
      have HA := Lib.hid (HV.out.only (OnlyIn.alloc (fun _ => False) w2 (.cells #[.int .i64 b.signed, .slice a n c] 24)) (fun _ h => h.elim)).at_
      refine (Check_any b _ _ HA.out).mono ?_
      rintro e w3 ⟨rfl, hb⟩
      rw [checkR_eq']
      have HB3 := Lib.hid (Below.trans (show Below w.heap.size w (w2.alloc (.cells #[.int .i64 b.signed, .slice a n c] 24)) from (by repeat (first | (refine Below.setCell ?_ ?_ _; rotate_left; · (first | omega | (simp; done) | (simp; omega) | fail)) | (refine Below.alloc ?_ ?_ _; rotate_left; · (first | omega | (simp; done) | (simp; omega) | fail)) | refine Below.drew ?_ | exact HB2.out | fail))) (hb.mono (by simp; omega)))
      have HP3 := Lib.hid (blk_later hb (show (w2.alloc (.cells #[.int .i64 b.signed, .slice a n c] 24)).heap[w.heap.size]? = _ from (by repeat (first | (refine (heap_setCell_past _ _ _ _ ?_).trans ?_; · (first | omega | (simp; done) | (simp; omega) | fail)) | (refine (heap_alloc_past _ _ _ ?_).trans ?_; · (first | omega | (simp; done) | (simp; omega) | fail)) | exact HP2.out | fail))))
      have hq := blk_later hb (show (w2.alloc (.cells #[.int .i64 b.signed, .slice a n c] 24)).heap[w2.heap.size]? = some (.cells #[.int .i64 b.signed, .slice a n c] 24) from (by repeat (first | exact heap_alloc_at _ _ _ (by (first | omega | (simp; done) | (simp; omega) | fail)) | (refine (heap_alloc_past _ _ _ ?_).trans ?_; · (first | omega | (simp; done) | (simp; omega) | fail)) | fail)))
      have HV3 := Lib.hid ((HV.out.only (OnlyIn.alloc (fun _ => False) w2 (.cells #[.int .i64 b.signed, .slice a n c] 24)) (fun _ h => h.elim)).only (OnlyIn.of_below (X := fun _ => False) hb) (fun _ h => h.elim))
      have c0 := blk_cell HP3.out 0; have c1 := blk_cell HP3.out 1
      have f0 := blk_free HP3.out 0; have f1 := blk_free HP3.out 1
      have q0 := blk_cell hq 0; have q1 := blk_cell hq 1
      have hz3 := blk_lt HP3.out
      have HQ := Lib.hid hq
      clear hb hq
      by_cases he : errF b = 0
      · have hF : Hid (readF s = (b, 0)) := by show _ = _; rw [HR2.out, if_pos he]
        go_wp2_with fail
        refine bodyPost_ret (v := .tuple #[.agg #[.int .i64 b.signed, .slice a n c], .int .i64 0]) (by simp [results, Tryz.results9, go_sem, c0, c1]) rfl ?_
        rw [hF.out]
        refine ⟨⟨_, rfl, ?_⟩, (by repeat (first | (refine Below.setCell ?_ ?_ _; rotate_left; · (first | omega | (simp; done) | (simp; omega) | fail)) | (refine Below.alloc ?_ ?_ _; rotate_left; · (first | omega | (simp; done) | (simp; omega) | fail)) | refine Below.drew ?_ | exact HB3.out | fail))⟩
        exact ((HV3.out.only ((OnlyIn.setCell (X := fun k => k = w.heap.size) w3 ⟨w.heap.size, 0, none⟩ (.int .i64 b.signed) rfl).trans (OnlyIn.setCell _ ⟨w.heap.size, 1, none⟩ (.slice a n c) rfl)) (fun k h => by omega)).mono (by omega))
      · have hne : (errF b != 0) = true := by simp [he]
        have hF : Hid (readF s = (⟨0, []⟩, 6)) := by show _ = _; rw [HR2.out, if_neg he]
        clear he
        go_wp2_with fail
        refine bodyPost_ret (v := .tuple #[.agg #[.int .i64 0, .slice none 0 0], .int .i64 6]) (by simp [results, Tryz.results9, go_sem, c0, c1]) rfl ?_
        rw [hF.out]
        exact ⟨⟨_, rfl, BookIn.none _ _⟩, (by repeat (first | (refine Below.setCell ?_ ?_ _; rotate_left; · (first | omega | (simp; done) | (simp; omega) | fail)) | (refine Below.alloc ?_ ?_ _; rotate_left; · (first | omega | (simp; done) | (simp; omega) | fail)) | refine Below.drew ?_ | exact HB3.out | fail))⟩

end Go.Proofs.YtimdmgkegdlafaaGreatDoor

/- Contracts of formula and Write. -/
namespace Go.Proofs.YtimdmgkegdlafaaGreatDoor
set_option linter.unusedSimpArgs false
set_option linter.unusedVariables false
open Go Go.RowKit Go.Sort Go.BigFrame

theorem itmT_len {x : Itm} (h : ItOk x) : (itmT x).length ≤ 39 := by
  have h1 := sigT_len x.fr x.fl
  have h2 := sigT_len x.lr x.ll
  have h3 := dec_len x.leaves
  have h4 := chsT_len h.few
  unfold itmT
  split <;> simp only [List.length_append, List.length_cons] <;> omega
/-- The text of some items, one behind the other. -/
def itmsT (xs : List Itm) : Bs := xs.flatMap fun x => itmT x ++ [32]
theorem itmsT_len {xs : List Itm} (h : ∀ x ∈ xs, ItOk x) : (itmsT xs).length ≤ xs.length * 40 := by
  unfold itmsT
  refine flatMap_len fun x hx => ?_
  have := itmT_len (h x hx)
  simp only [List.length_append, List.length_singleton]
  omega
theorem itmsT_take {xs : List Itm} {k : Nat} {x : Itm} (h : xs[k]? = some x) : itmsT (xs.take (k + 1)) = itmsT (xs.take k) ++ (itmT x ++ [32]) := by
  unfold itmsT
  rw [(take_split h).2]
  simp

set_option maxRecDepth 100000 in
set_option maxHeartbeats 4000000 in
theorem formula_any (sg : Int) (ys : List (Itm × Value)) (v : Value) (w : World) (hs : 0 ≤ sg ∧ sg < 100) (hv : ItsAt w v ys) (hc : ∀ y ∈ ys, ChsAt w.heap.size w y.2 y.1.chs) (ho : ∀ y ∈ ys, ItOk y.1) (hn : ys.length ≤ 100) :
    Calls Tryz.prog 23 #[.int .i64 sg, v] w fun e w' => e = .returned (S (formulaT sg (ys.map (·.1)))) ∧ Below w.heap.size w w' := by
  obtain ⟨a, cap, rfl, hcell⟩ := hv
  obtain ⟨n, hnn⟩ : ∃ n, n = ys.length := ⟨_, rfl⟩
  have HCE := Lib.hid hcell
  have HCH := Lib.hid hc
  have HO := Lib.hid ho
  have HN := Lib.hid hnn
  have hn' : n ≤ 100 := by omega
  rw [← hnn]
  have zsp : (⟨#[32]⟩ : ByteArray).size ≤ 1 := by decide
  have zdo : (⟨#[36]⟩ : ByteArray).size ≤ 1 := by decide
  have zsg : (⟨(dec sg).toArray⟩ : ByteArray).size ≤ 2 := by rw [size_bytes]; exact dec_len sg
  clear hcell hc ho hnn hn
  go_enter Tryz.func23, Tryz.ntmps23
  go_wp2_with fail
  go_loopw [5, 10] (fun t i wr => ∃ (k : Nat) (tx : Bs), k ≤ n ∧ i = .int .i64 k ∧ t = S tx ∧ Hid (tx = itmsT ((ys.take k).map (·.1))) ∧ Hid (Below w.heap.size w wr)) (fun _ i _ => n - (intOf i).toNat)
  case atStart => exact ⟨0, [], by omega, rfl, rfl, rfl, Below.refl _ _⟩
  case round =>
    obtain ⟨k, tx, hk, rfl, rfl, HT, HB⟩ := hrel
    have htl : tx.length ≤ 4000 := by
      rw [HT.out]
      have := itmsT_len (xs := (ys.take k).map (·.1)) fun x hx => by
        obtain ⟨y, hy, rfl⟩ := List.mem_map.1 hx
        exact HO.out y (List.mem_of_mem_take hy)
      simp only [List.length_map, List.length_take] at this
      omega
    have ztx : (⟨tx.toArray⟩ : ByteArray).size ≤ 4000 := by rw [size_bytes]; exact htl
    have hz := HB.out.size
    by_cases hlt : k < n
    · obtain ⟨y, hy⟩ : ∃ y, ys[k]? = some y := ⟨_, List.getElem?_eq_getElem (by have := HN.out; omega)⟩
      have hym := List.mem_of_getElem? hy
      have hyo := HO.out y hym
      have hyc := HCH.out y hym
      obtain ⟨b, rfl, hbw, hcl⟩ := HCE.out (fun e => by rw [e] at hy; cases hy)
      obtain ⟨q0, q1, q2, q3, q4, q5, q6⟩ := hcl k y hy
      have hst : Hid (itmsT ((ys.take (k + 1)).map (·.1)) = tx ++ (itmT y.1 ++ [32])) := by
        show _ = _
        rw [HT.out, List.map_take, List.map_take]
        exact itmsT_take (by rw [List.getElem?_map, hy]; rfl)
      have hcl' : ∀ i v, w.cell? ⟨b, i, none⟩ = some v → wr.cell? ⟨b, i, none⟩ = some v := fun i v h => (HB.out.cell (p := ⟨b, i, none⟩) hbw).trans h
      have q0 := hcl' _ _ q0
      have q1 := hcl' _ _ q1
      have q2 := hcl' _ _ q2
      have q3 := hcl' _ _ q3
      have q4 := hcl' _ _ q4
      have q5 := hcl' _ _ q5
      have q6 := hcl' _ _ q6
      obtain ⟨x, xv⟩ := y
      dsimp only at hyc hyo q0 q1 q2 q3 q4 q5 q6
      have HYC := Lib.hid hyc
      have HYO := Lib.hid hyo
      obtain ⟨xa, xcap, rfl, -⟩ := hyc
      have zit : (⟨(itmT x).toArray⟩ : ByteArray).size ≤ 39 := by rw [size_bytes]; exact itmT_len hyo
      have zis : ((⟨(itmT x).toArray⟩ : ByteArray) ++ ⟨#[32]⟩).size ≤ 40 := by rw [ByteArray.size_append]; omega
      clear hcl hcl' hy hym hyo htl HT
      go_wp2_with fail
      refine (itemText_any x (.slice xa x.chs.length xcap) _ HYO.out (((HYC.out.same (fun j hj => HB.out.block j hj)).mono hz).below (C := wr.heap.size) (by exact (by repeat (first | exact Below.refl _ _ | assumption | (refine Below.alloc ?_ ?_ _; rotate_left; · (first | omega | (simp; done) | (simp; omega) | fail)) | (refine Below.setCell ?_ ?_ _; rotate_left; · (first | omega | (simp; done) | (simp; omega) | fail)) | refine Below.drew ?_ | fail))) (Nat.le_refl _) |>.mono (by simp))).mono ?_
      rintro e w2 ⟨rfl, hb⟩
      have HB2 := Lib.hid (HB.out.trans (Below.trans (by exact (by repeat (first | exact Below.refl _ _ | assumption | (refine Below.alloc ?_ ?_ _; rotate_left; · (first | omega | (simp; done) | (simp; omega) | fail)) | (refine Below.setCell ?_ ?_ _; rotate_left; · (first | omega | (simp; done) | (simp; omega) | fail)) | refine Below.drew ?_ | fail))) (hb.mono (by simp; omega))))
      clear hb q0 q1 q2 q3 q4 q5 q6 HB
      go_wp2_with fail
      rw [show (⟨#[32]⟩ : ByteArray) = ⟨[32].toArray⟩ from rfl, cat_bytes, cat_bytes]
      go_roundw
      case rel => exact ⟨k + 1, _, by omega, by go_num, rfl, hst.out.symm, HB2⟩
      case measure => simp [intOf]; omega
    · obtain rfl : k = n := by omega
      have hF : Hid (formulaT sg (ys.map (·.1)) = (tx ++ [36]) ++ dec sg) := by
        show _ = _
        rw [HT.out, HN.out, List.take_length]
        simp [formulaT, itmsT]
      have ztd : ((⟨tx.toArray⟩ : ByteArray) ++ ⟨#[36]⟩).size ≤ 4001 := by rw [ByteArray.size_append]; omega
      clear htl HT
      go_wp2_with fail
      refine (Itoa_any sg hs.1 hs.2 _).mono ?_
      rintro e w2 ⟨rfl, rfl⟩
      go_wp2_with fail
      go_ret
      exact ⟨ret_S (by rw [hF.out, show (⟨#[36]⟩ : ByteArray) = ⟨[36].toArray⟩ from rfl, cat_bytes, cat_bytes]), HB.out⟩

end Go.Proofs.YtimdmgkegdlafaaGreatDoor
