/- The parts Pm, Pn, Po, Ax, Rr of the proof, joined. It holds without conditions of its own. -/
import Derived.Test.YtimdmgkegdlafaaGreatDoorSH27
import Derived.Test.YtimdmgkegdlafaaGreatDoorSH38
import Derived.Test.YtimdmgkegdlafaaGreatDoorSH20
import Derived.Test.YtimdmgkegdlafaaGreatDoorSH26
import Derived.Test.YtimdmgkegdlafaaGreatDoorSH31
import Derived.Test.YtimdmgkegdlafaaGreatDoorSH22
import Derived.Test.YtimdmgkegdlafaaGreatDoorSH7
/- Plain facts: what is written is read back; no formula that is read as a book is shorter than the one that is written of it. -/
namespace Go.Proofs.YtimdmgkegdlafaaGreatDoor
set_option linter.unusedSimpArgs false
set_option linter.unusedVariables false

theorem sigT_few {r l : Int} (h : sigB r l = true) : (sigT r l).length ≤ 4 := by
  have hb : 1 ≤ r ∧ r ≤ 3 ∧ 0 ≤ l ∧ l ≤ 24 := by simp [sigB, inB] at h; omega
  have hl := letterT_len l
  unfold sigT
  rw [List.length_append]
  have hd : (dec r).length = 1 := by
    unfold dec decN
    rw [if_pos (by omega)]
    rfl
  split <;> simp <;> omega
theorem dec_pos1 (n : Int) : 1 ≤ (dec n).length := by
  unfold dec decN
  split <;> simp
theorem GOk.chW {g : Gth} (h : GOk g) : ∀ c ∈ g.chs, ChW c := fun c hc => by
  obtain ⟨h1, h2, h3, h4, h5⟩ := h.ch hc
  have := h.leaves
  refine ⟨h1, ⟨h2, by omega⟩, ⟨h4, by omega⟩, fun hk => ?_⟩
  obtain ⟨-, hr⟩ := chsErr_zero h.chs c hc
  unfold rangeB at hr
  rw [if_neg hk] at hr
  simp only [Bool.and_eq_true, decide_eq_true_eq] at hr
  exact hr.2
theorem itm1_w {g : Gth} (h : GOk g) : ItW (itm1 g) := ⟨h.sig, h.sig, by have := h.leaves; exact ⟨by show 0 ≤ g.leaves; omega, by show g.leaves ≤ 12; omega⟩, h.few, h.chW, Or.inl ⟨rfl, rfl, rfl⟩⟩
theorem itmW_len {x : Itm} (h : ItW x) : (itmT x).length ≤ 32 := by
  have h1 := sigT_few h.first
  have h2 := sigT_few h.last
  have h3 := dec_len x.leaves
  have h4 := chsT_len h.few
  unfold itmT
  rcases h.kind with ⟨hk, -, -⟩ | ⟨hk, -, -, -, hc⟩
  · rw [if_neg (by omega)]
    simp only [List.length_append]
    omega
  · rw [if_pos hk, hc]
    simp [chsT]
    omega
theorem itemsW_len : ∀ (xs : List Itm), (∀ x ∈ xs, ItW x) → (itemsT xs).length ≤ xs.length * 33
  | [], _ => by simp [itemsT]
  | x :: xs, h => by
    have h1 := itmW_len (h x (by simp))
    have h2 := itemsW_len xs (fun y hy => h y (List.mem_cons_of_mem _ hy))
    rw [itemsT_cons]
    simp only [List.length_append, List.length_cons]
    omega
theorem itmsOf_few : ∀ (gs : List Gth) (ys : List Itm), (gs.foldl itmStep ys).length ≤ ys.length + gs.length
  | [], ys => by simp
  | g :: gs, ys => by
    have h := itmsOf_few gs (itmStep ys g)
    have h1 : (itmStep ys g).length ≤ ys.length + 1 := by
      rcases nil_or_snoc ys with rfl | ⟨zs, y, rfl⟩
      · simp [itmStep]
      · cases ht : takesB y g with
        | true => rw [step_yes ht]; simp
        | false => rw [step_no ht]; simp
    rw [List.foldl_cons, List.length_cons]
    omega

theorem rank_next' {s : Int × Int} (h : s.2 < 23) : rankS (nextS s.1 s.2).1 (nextS s.1 s.2).2 = rankS s.1 s.2 + 1 := rank_next h
theorem runS_snoc : ∀ (n : Nat) (s l : Int × Int), 0 ≤ s.2 ∧ s.2 < 23 → 0 ≤ l.2 ∧ l.2 < 23 → rankS l.1 l.2 = rankS s.1 s.2 + n → runS (n + 1) s (nextS l.1 l.2) = runS n s l ++ [nextS l.1 l.2]
  | 0, s, l, hs, hl, hr => by
    obtain ⟨h1, h2⟩ := rank_inj (r := l.1) (r' := s.1) hl hs (by simpa using hr)
    have e : l = s := Prod.ext h1 h2
    subst e
    have hn := rank_next' hl.2
    have hne : l ≠ nextS l.1 l.2 := fun e => by
      rw [← e] at hn
      omega
    show (if l = nextS l.1 l.2 then [l] else [l, nextS l.1 l.2]) = _
    rw [if_neg hne]
    rfl
  | n + 1, s, l, hs, hl, hr => by
    have hn := rank_next' hl.2
    have hns := rank_next' hs.2
    have hne : s ≠ nextS l.1 l.2 := fun e => by
      rw [← e] at hn
      omega
    have hne2 : s ≠ l := fun e => by
      rw [← e] at hr
      omega
    have ho := nextS_ok (r := s.1) hs
    rw [runS, if_neg hne, runS_snoc n (nextS s.1 s.2) l ⟨ho.1, ho.2.1⟩ hl (by omega)]
    conv => rhs; rw [runS, if_neg hne2]
    rfl
theorem runS_head (n : Nat) (s l : Int × Int) : runS n s l = s :: (runS n s l).tail := by
  cases n with
  | zero => rfl
  | succ n =>
    unfold runS
    split <;> rfl
theorem takes_iff {y : Itm} {g : Gth} : takesB y g = true ↔ y.chs = [] ∧ g.chs = [] ∧ y.leaves = g.leaves ∧ y.ll < 23 ∧ nextS y.lr y.ll = (g.round, g.letter) := by
  unfold takesB
  simp only [Bool.and_eq_true, decide_eq_true_eq, List.length_eq_zero_iff]
  constructor
  · rintro ⟨⟨⟨⟨a, b⟩, c⟩, d⟩, e⟩
    exact ⟨a, b, c, d, e⟩
  · rintro ⟨a, b, c, d, e⟩
    exact ⟨⟨⟨⟨a, b⟩, c⟩, d⟩, e⟩
theorem sigB_iff {r l : Int} : sigB r l = true ↔ 1 ≤ r ∧ r ≤ 3 ∧ 0 ≤ l ∧ l ≤ 24 := by simp [sigB, inB]; omega
/-- An item that goes on. -/
theorem itmGs_more {y : Itm} {g : Gth} (hy : ItW y) (hg : GOk g) (ht : takesB y g = true) : ItW { y with kind := 1, lr := g.round, ll := g.letter } ∧ itmGs { y with kind := 1, lr := g.round, ll := g.letter } = itmGs y ++ [g] := by
  obtain ⟨h1, h2, h3, h4, h5⟩ := takes_iff.1 ht
  have hf := sigB_iff.1 hy.first
  have hl := sigB_iff.1 hy.last
  obtain ⟨gr, gl, gv, gc⟩ := g
  obtain ⟨yk, yfr, yfl, ylr, yll, yv, yc⟩ := y
  dsimp only at h1 h2 h3 h4 h5 hf hl
  subst h1 h2 h3
  have ho := nextS_ok (r := ylr) (l := yll) ⟨hl.2.2.1, h4⟩
  have hn := rank_next (r := ylr) h4
  rw [h5] at ho hn
  dsimp only at ho hn
  have hk : yfl < 23 ∧ rankS yfr yfl ≤ rankS ylr yll := by
    rcases hy.kind with ⟨-, e1, e2⟩ | ⟨-, e1, e2, e3, -⟩
    · dsimp only at e1 e2
      subst e1 e2
      exact ⟨h4, Int.le_refl _⟩
    · dsimp only at e1 e2 e3
      have := rank_behind ⟨hl.2.2.1, e2⟩ ⟨hf.2.2.1, e1⟩ e3
      exact ⟨e1, by omega⟩
  refine ⟨⟨hy.first, hg.sig, hy.leaves, by simp, fun c hc => (by cases hc), Or.inr ⟨rfl, hk.1, ho.2.1, ?_, rfl⟩⟩, ?_⟩
  · show behindB gr gl yfr yfl = true
    unfold behindB
    have hr : rankS yfr yfl < rankS gr gl := by omega
    unfold rankS at hr
    split
    · subst_vars
      exact decide_eq_true (by omega)
    · exact decide_eq_true (by omega)
  · have hs := runS_snoc (rankS ylr yll - rankS yfr yfl).toNat (yfr, yfl) (ylr, yll) ⟨hf.2.2.1, hk.1⟩ ⟨hl.2.2.1, h4⟩ (by dsimp only; omega)
    dsimp only at hs
    rw [h5] at hs
    have hz : (rankS gr gl - rankS yfr yfl).toNat = (rankS ylr yll - rankS yfr yfl).toNat + 1 := by omega
    show (if (1 : Int) = 0 then _ else (runS (rankS gr gl - rankS yfr yfl).toNat (yfr, yfl) (gr, gl)).map fun s => (⟨s.1, s.2, yv, []⟩ : Gth)) = _
    rw [if_neg (by omega), hz, hs, List.map_append]
    congr 1
    unfold itmGs
    dsimp only
    rcases hy.kind with ⟨e0, e1, e2⟩ | ⟨e0, -⟩
    · dsimp only at e0 e1 e2
      subst e0 e1 e2
      rw [if_pos rfl, runS_stop]
      rfl
    · dsimp only at e0
      subst e0
      rw [if_neg (by omega)]
theorem gsOf_snoc (xs : List Itm) (y : Itm) : gsOf (xs ++ [y]) = gsOf xs ++ itmGs y := by simp [gsOf]
/-- The items of gatherings are read as these. -/
theorem itmsOf_back : ∀ (gs : List Gth) (ys : List Itm), (∀ g ∈ gs, GOk g) → (∀ y ∈ ys, ItW y) → gsOf (gs.foldl itmStep ys) = gsOf ys ++ gs ∧ ∀ y ∈ gs.foldl itmStep ys, ItW y
  | [], ys, _, hy => ⟨by simp, hy⟩
  | g :: gs, ys, hg, hy => by
    have hg0 := hg g (by simp)
    have hs : gsOf (itmStep ys g) = gsOf ys ++ [g] ∧ ∀ y ∈ itmStep ys g, ItW y := by
      have hnew : gsOf (ys ++ [itm1 g]) = gsOf ys ++ [g] := by rw [gsOf_snoc]; rfl
      have hnw : ∀ y ∈ ys ++ [itm1 g], ItW y := fun y h => by
        rcases List.mem_append.1 h with h | h
        · exact hy y h
        · rw [List.mem_singleton.1 h]
          exact itm1_w hg0
      rcases nil_or_snoc ys with rfl | ⟨zs, y, rfl⟩
      · exact ⟨hnew, hnw⟩
      · cases ht : takesB y g with
        | false =>
          rw [step_no ht]
          exact ⟨hnew, hnw⟩
        | true =>
          rw [step_yes ht]
          obtain ⟨h1, h2⟩ := itmGs_more (hy y (by simp)) hg0 ht
          refine ⟨by rw [gsOf_snoc, gsOf_snoc, h2, List.append_assoc], fun x hx => ?_⟩
          rcases List.mem_append.1 hx with hx | hx
          · exact hy x (List.mem_append_left _ hx)
          · rw [List.mem_singleton.1 hx]
            exact h1
    obtain ⟨h1, h2⟩ := itmsOf_back gs (itmStep ys g) (fun x hx => hg x (List.mem_cons_of_mem _ hx)) hs.2
    exact ⟨by rw [List.foldl_cons, h1, hs.1]; simp, h2⟩
theorem write_len {b : Bk} (he : errF b = 0) : (writeF b).length ≤ 1000 := by
  have hb := errF_zero he
  obtain ⟨-, h2⟩ := itmsOf_back b.gs [] hb.gs (fun y hy => by cases hy)
  have h3 := itemsW_len _ h2
  have h4 := itmsOf_few b.gs []
  have h5 := hb.len
  have h6 := dec_len b.signed
  show (formulaT b.signed (itmsOf b.gs)).length ≤ 1000
  rw [formulaT_is]
  unfold itmsOf
  simp only [List.length_append, List.length_cons, List.length_nil] at h4 ⊢
  omega
theorem allF_book {s : Bs} {b : Bk} (h : bookF s = some (b, [])) : allF (bookF s) = some b := by rw [h]; rfl
theorem write_read {b : Bk} (he : errF b = 0) : readF (writeF b) = (b, 0) := by
  have hb := errF_zero he
  obtain ⟨h1, h2⟩ := itmsOf_back b.gs [] hb.gs (fun y hy => by cases hy)
  have hl := write_len he
  have hk : bookF (writeF b) = some (b, []) := by
    have h := bookF_text h2 hb.signed.1 hb.signed.2
    rw [h1] at h
    exact h
  unfold readF
  rw [if_neg (by omega), allF_book hk]
  dsimp only
  rw [if_pos he]

/-- What a step onto the last item adds. -/
theorem ext_len (y : Itm) (r l : Int) : (itmT { y with kind := 1, lr := r, ll := l }).length + (if y.kind = 1 then 1 + (sigT y.lr y.ll).length else 0) = (itmT y).length + 1 + (sigT r l).length := by
  unfold itmT
  rw [if_pos rfl]
  split <;> simp <;> omega
theorem run_fold (lv : Int) : ∀ (n : Nat) (s l : Int × Int) (zs : List Itm) (y : Itm), rankS l.1 l.2 = rankS s.1 s.2 + n → (0 ≤ s.2 ∧ s.2 < 23) → (0 ≤ l.2 ∧ l.2 < 23) → y.lr = s.1 → y.ll = s.2 → y.leaves = lv → y.chs = [] →
    ((runS n s l).tail.map fun s => (⟨s.1, s.2, lv, []⟩ : Gth)).foldl itmStep (zs ++ [y]) = zs ++ [if n = 0 then y else { y with kind := 1, lr := l.1, ll := l.2 }]
  | 0, s, l, zs, y, _, _, _, _, _, _, _ => by simp [runS]
  | n + 1, s, l, zs, y, hr, hs, hl, h1, h2, h3, h4 => by
    have hne : s ≠ l := fun e => by
      rw [← e] at hr
      omega
    have hns := rank_next' hs.2
    have ho := nextS_ok (r := s.1) hs
    have ht : takesB y ⟨(nextS s.1 s.2).1, (nextS s.1 s.2).2, lv, []⟩ = true := takes_iff.2 ⟨h4, rfl, h3, by omega, by rw [h1, h2]⟩
    have e : (runS (n + 1) s l).tail = nextS s.1 s.2 :: (runS n (nextS s.1 s.2) l).tail := by
      rw [← runS_head, runS, if_neg hne]
      rfl
    have hgo := run_fold lv n (nextS s.1 s.2) l zs { y with kind := 1, lr := (nextS s.1 s.2).1, ll := (nextS s.1 s.2).2 } (by omega) ⟨ho.1, ho.2.1⟩ hl rfl rfl h3 h4
    rw [e, List.map_cons, List.foldl_cons, step_yes ht, if_neg (Nat.succ_ne_zero n)]
    refine hgo.trans ?_
    split
    · rename_i hn
      subst hn
      obtain ⟨e1, e2⟩ := rank_inj (r := l.1) (r' := (nextS s.1 s.2).1) hl ⟨ho.1, ho.2.1⟩ (by omega)
      rw [e1, e2]
    · rfl
theorem itmT_one {x : Itm} (hk : x.kind = 0) : itmT (itm1 ⟨x.fr, x.fl, x.leaves, x.chs⟩) = itmT x := by
  unfold itmT itm1
  dsimp only
  rw [if_neg (by omega), if_neg (by omega)]
/-- One more item: as it is, or shorter. -/
theorem add_item (ys : List Itm) {x : Itm} (hx : ItW x) : itemsT ((itmGs x).foldl itmStep ys) = itemsT ys ++ itmT x ++ [32] ∨ (itemsT ((itmGs x).foldl itmStep ys)).length < (itemsT ys).length + (itmT x).length + 1 := by
  have hf := sigB_iff.1 hx.first
  have hl := sigB_iff.1 hx.last
  have hd := dec_pos1 x.leaves
  rcases hx.kind with ⟨hk, -, -⟩ | ⟨hk, k1, k2, k3, hc⟩
  · have hg : itmGs x = [⟨x.fr, x.fl, x.leaves, x.chs⟩] := by unfold itmGs; rw [if_pos hk]
    have hxl : (itmT x).length = (sigT x.fr x.fl).length + (dec x.leaves).length + (chsT x.chs).length := by
      unfold itmT
      rw [if_neg (by omega)]
      simp only [List.length_append]
    rw [hg, List.foldl_cons, List.foldl_nil]
    rcases nil_or_snoc ys with rfl | ⟨zs, y, rfl⟩
    · left
      show itemsT ([] ++ [itm1 _]) = _
      rw [itemsT_snoc, itmT_one hk]
    · cases ht : takesB y ⟨x.fr, x.fl, x.leaves, x.chs⟩ with
      | false =>
        left
        rw [step_no ht, itemsT_snoc, itmT_one hk]
      | true =>
        right
        have h := ext_len y x.fr x.fl
        rw [step_yes ht, itemsT_snoc, itemsT_snoc]
        simp only [List.length_append, List.length_singleton]
        omega
  · have hr := rank_behind ⟨hl.2.2.1, k2⟩ ⟨hf.2.2.1, k1⟩ k3
    obtain ⟨n, hn⟩ : ∃ n, n = (rankS x.lr x.ll - rankS x.fr x.fl).toNat := ⟨_, rfl⟩
    have hg : itmGs x = (⟨x.fr, x.fl, x.leaves, []⟩ : Gth) :: ((runS n (x.fr, x.fl) (x.lr, x.ll)).tail.map fun s => (⟨s.1, s.2, x.leaves, []⟩ : Gth)) := by
      unfold itmGs
      rw [if_neg (by omega), ← hn, runS_head, List.map_cons]
      rfl
    have hxl : (itmT x).length = (sigT x.fr x.fl).length + 1 + (sigT x.lr x.ll).length + (dec x.leaves).length := by
      unfold itmT
      rw [if_pos hk, hc]
      simp only [chsT, if_true, List.length_append, List.length_cons, List.length_nil]
      omega
    have hrun := fun (zs : List Itm) (y : Itm) => run_fold x.leaves n (x.fr, x.fl) (x.lr, x.ll) zs y (by dsimp only; omega) ⟨hf.2.2.1, k1⟩ ⟨hl.2.2.1, k2⟩
    have hnew : ∀ zs : List Itm, itemsT (((runS n (x.fr, x.fl) (x.lr, x.ll)).tail.map fun s => (⟨s.1, s.2, x.leaves, []⟩ : Gth)).foldl itmStep (zs ++ [itm1 ⟨x.fr, x.fl, x.leaves, []⟩])) = itemsT zs ++ itmT x ++ [32] := fun zs => by
      have h := hrun zs (itm1 ⟨x.fr, x.fl, x.leaves, []⟩) rfl rfl rfl rfl
      rw [h, if_neg (by omega), itemsT_snoc]
      congr 2
      unfold itmT itm1
      dsimp only
      rw [if_pos rfl, if_pos hk, hc]
    rw [hg, List.foldl_cons]
    rcases nil_or_snoc ys with rfl | ⟨zs, y, rfl⟩
    · exact Or.inl (hnew [])
    · cases ht : takesB y ⟨x.fr, x.fl, x.leaves, []⟩ with
      | false =>
        left
        rw [step_no ht]
        exact hnew _
      | true =>
        right
        obtain ⟨t1, -, t3, -, -⟩ := takes_iff.1 ht
        have h2 := hrun zs { y with kind := 1, lr := x.fr, ll := x.fl } rfl rfl t3 t1
        rw [step_yes ht]
        refine Nat.lt_of_le_of_lt (Nat.le_of_eq (congrArg (fun z => (itemsT z).length) h2)) ?_
        dsimp only
        rw [if_neg (by omega), itemsT_snoc, itemsT_snoc]
        have h := ext_len y x.lr x.ll
        simp only [List.length_append, List.length_singleton]
        omega
theorem add_items : ∀ (xs ys : List Itm), (∀ x ∈ xs, ItW x) → itemsT ((gsOf xs).foldl itmStep ys) = itemsT ys ++ itemsT xs ∨ (itemsT ((gsOf xs).foldl itmStep ys)).length < (itemsT ys).length + (itemsT xs).length
  | [], ys, _ => by left; simp [gsOf, itemsT]
  | x :: xs, ys, h => by
    have e : gsOf (x :: xs) = itmGs x ++ gsOf xs := by simp [gsOf]
    rw [e, List.foldl_append]
    have h1 := add_item ys (h x (by simp))
    have h2 := add_items xs ((itmGs x).foldl itmStep ys) (fun y hy => h y (List.mem_cons_of_mem _ hy))
    rw [itemsT_cons]
    rcases h1 with h1 | h1
    · rcases h2 with h2 | h2
      · left
        rw [h2, h1]
        simp
      · right
        rw [h1] at h2
        simp only [List.length_append, List.length_cons, List.length_nil] at h2 ⊢
        omega
    · right
      rcases h2 with h2 | h2
      · rw [h2]
        simp only [List.length_append, List.length_cons]
        omega
      · simp only [List.length_append, List.length_cons]
        omega
/-- **No formula of a book is shorter than the one that is written, and another one is longer.** -/
theorem write_short {s : Bs} {b : Bk} (h : allF (bookF s) = some b) : s = writeF b ∨ (writeF b).length < s.length := by
  obtain ⟨xs, rfl, hg, hw, -, -⟩ := bookF_is h
  have h1 := add_items xs [] hw
  rw [← hg] at h1
  show _ ∨ (formulaT b.signed (itmsOf b.gs)).length < _
  show _ = formulaT b.signed (itmsOf b.gs) ∨ _
  rw [formulaT_is]
  unfold itmsOf
  rcases h1 with h1 | h1
  · left
    rw [h1]
    rfl
  · right
    have e0 : (itemsT ([] : List Itm)).length = 0 := rfl
    simp only [List.length_append, List.length_cons]
    omega
end Go.Proofs.YtimdmgkegdlafaaGreatDoor

/- Plain facts: what the reference reads of a formula. -/
namespace Go.Proofs.YtimdmgkegdlafaaGreatDoor
set_option linter.unusedSimpArgs false
set_option linter.unusedVariables false

theorem dig_no {c : UInt8} (hc : isDig c = false) (n : Nat) : c ∉ digN n := fun h => by
  have := List.all_eq_true.1 (digN_all n) c h
  rw [hc] at this
  cases this
theorem dec_no {c : UInt8} (hc : isDig c = false) {n : Int} (h0 : 0 ≤ n) (h1 : n < 100) : c ∉ dec n := by
  rw [← show digN n.toNat = dec n from digN_dec (by omega)]
  exact dig_no hc _
theorem sigT_no {c : UInt8} (hc : isDig c = false) (hl : ∀ l : Nat, l < 25 → c ∉ letterT l) {r l : Int} (h : sigB r l = true) : c ∉ sigT r l := by
  obtain ⟨h1, h2, h3, h4⟩ := sigB_iff.1 h
  unfold sigT
  obtain ⟨m, rfl⟩ : ∃ m : Nat, l = m := ⟨l.toNat, by omega⟩
  intro hm
  rcases List.mem_append.1 hm with hm | hm
  · split at hm
    · exact dec_no hc (by omega) (by omega) hm
    · cases hm
  · exact hl m (by omega) hm
theorem chT_no {c : UInt8} (hc : isDig c = false) (h1 : c ≠ 45) (h2 : c ≠ 61) (h3 : c ≠ 43) {x : Chg} (h : ChW x) : c ∉ chT x := by
  have hp := dec_no hc h.pos.1 (by have := h.pos.2; omega)
  have hm := dec_no hc h.many.1 (by have := h.many.2; omega)
  unfold chT
  split
  · simp [h1, hp]
  · split
    · simp [h2, hp]
    · simp [h3, hp, hm]
theorem joinB_no {c d : UInt8} (hd : c ≠ d) : ∀ {xs : List Bs}, (∀ x ∈ xs, c ∉ x) → c ∉ joinB d xs
  | [], _ => by simp [joinB]
  | [x], h => by simpa [joinB] using h x (by simp)
  | x :: y :: xs, h => by
    have ih := joinB_no hd (xs := y :: xs) fun z hz => h z (List.mem_cons_of_mem _ hz)
    have h1 := h x (by simp)
    simp only [joinB, List.mem_append, List.mem_cons, not_or]
    exact ⟨h1, hd, ih⟩
theorem cutF_joinB {d : UInt8} : ∀ {xs : List Bs}, xs ≠ [] → (∀ x ∈ xs, d ∉ x) → cutF d (joinB d xs) = xs
  | [], h, _ => absurd rfl h
  | [x], _, h => by simpa [joinB] using cutF_one d x (h x (by simp))
  | x :: y :: xs, _, h => by
    have ih := cutF_joinB (xs := y :: xs) (by simp) fun z hz => h z (List.mem_cons_of_mem _ hz)
    rw [joinB, cutF_app d x _ (h x (by simp)), ih]
theorem inner_no {c : UInt8} (hc : isDig c = false) (h1 : c ≠ 45) (h2 : c ≠ 61) (h3 : c ≠ 43) (h4 : c ≠ 44) (h5 : c ≠ 41) {cs : List Chg} (h : ∀ x ∈ cs, ChW x) : c ∉ joinB 44 (cs.map chT) ++ [41] := by
  have := joinB_no (c := c) h4 (xs := cs.map chT) (fun x hx => by
    obtain ⟨y, hy, rfl⟩ := List.mem_map.1 hx
    exact chT_no hc h1 h2 h3 (h y hy))
  simp [this, h5]
theorem itmT_no32 {x : Itm} (h : ItW x) : (32 : UInt8) ∉ itmT x := by
  have h1 := sigT_no (c := 32) (by decide) (by decide) h.first
  have h2 := sigT_no (c := 32) (by decide) (by decide) h.last
  have h3 := dec_no (c := 32) (by decide) h.leaves.1 (by have := h.leaves.2; omega)
  have h4 := inner_no (c := 32) (by decide) (by decide) (by decide) (by decide) (by decide) (by decide) h.chs
  have h5 : (32 : UInt8) ∉ chsT x.chs := by
    unfold chsT
    split
    · simp
    · simpa using h4
  unfold itmT
  split <;> simp [h1, h2, h3, h5]
theorem cut_items {n : Int} (h0 : 0 ≤ n) (h1 : n < 100) : ∀ {xs : List Itm}, (∀ x ∈ xs, ItW x) → cutF 32 (itemsT xs ++ 36 :: dec n) = xs.map itmT ++ [36 :: dec n]
  | [], _ => by
    have h := dec_no (c := 32) (by decide) h0 h1
    exact cutF_one 32 (36 :: dec n) (by simp [h])
  | x :: xs, h => by
    have ih := cut_items h0 h1 (xs := xs) fun y hy => h y (List.mem_cons_of_mem _ hy)
    rw [itemsT_cons, List.append_assoc, List.cons_append, cutF_app 32 _ _ (itmT_no32 (h x (by simp))), ih]
    rfl

/-- A change as the reference reads it. -/
def chPlusF (s : Bs) : Option Chg := match cutF 43 s with
  | [u, v] => if 0 ≤ decF u ∧ 0 ≤ decF v then some ⟨3, decF u, decF v⟩ else none
  | _ => none
def changedF (s : Bs) : Option Chg := match s with
  | c :: d :: t => if c = 45 then (if 0 ≤ decF (d :: t) then some ⟨1, decF (d :: t), 0⟩ else none) else if c = 61 then (if 0 ≤ decF (d :: t) then some ⟨2, decF (d :: t), 0⟩ else none) else chPlusF s
  | _ => chPlusF s
theorem chPlusF_is {s : Bs} {c : Chg} (h : chPlusF s = some c) (h1 : c.pos < 100) (h2 : c.many < 100) : s = chT c := by
  unfold chPlusF at h
  split at h
  · rename_i u v hc
    split at h
    · rename_i hd
      cases h
      dsimp only at h1 h2
      have hj := cutF_join 43 s
      rw [hc] at hj
      have e1 := decF_dec_is hd.1 h1
      have e2 := decF_dec_is hd.2 h2
      unfold chT
      rw [if_neg (show ¬ (3 : Int) = 1 by decide), if_neg (show ¬ (3 : Int) = 2 by decide), ← e1, ← e2, ← hj]
      rfl
    · cases h
  · cases h
theorem changedF_is {s : Bs} {c : Chg} (h : changedF s = some c) (h1 : c.pos < 100) (h2 : c.many < 100) : s = chT c := by
  unfold changedF at h
  split at h
  · rename_i a d t
    split at h
    · rename_i ha
      split at h
      · rename_i hd
        cases h
        dsimp only at h1
        rw [ha]
        show 45 :: d :: t = 45 :: dec (decF (d :: t))
        rw [← decF_dec_is hd h1]
      · cases h
    · split at h
      · rename_i ha
        split at h
        · rename_i hd
          cases h
          dsimp only at h1
          rw [ha]
          show 61 :: d :: t = 61 :: dec (decF (d :: t))
          rw [← decF_dec_is hd h1]
        · cases h
      · exact chPlusF_is h h1 h2
  · exact chPlusF_is h h1 h2
theorem chPlusF_text {p m : Int} (h1 : 0 ≤ p ∧ p ≤ 12) (h2 : 0 ≤ m ∧ m ≤ 12) : chPlusF (dec p ++ 43 :: dec m) = some ⟨3, p, m⟩ := by
  unfold chPlusF
  rw [cutF_app 43 _ _ (dec_no (by decide) h1.1 (by omega)), cutF_one 43 _ (dec_no (by decide) h2.1 (by omega))]
  dsimp only
  rw [decF_dec h1.1 (by omega), decF_dec h2.1 (by omega), if_pos ⟨h1.1, h2.1⟩]
theorem changedF_text {c : Chg} (h : ChW c) : changedF (chT c) = some c := by
  obtain ⟨k, p, m⟩ := c
  obtain ⟨h1, h2, h3, h4⟩ := h
  dsimp only at *
  obtain ⟨d, u, hd, hdd⟩ := dec_head h2.1 h2.2
  have hv : decF (d :: u) = p := by rw [← hd]; exact decF_dec h2.1 (by omega)
  rcases h1 with rfl | rfl | rfl
  · have e : chT ⟨1, p, m⟩ = 45 :: d :: u := by unfold chT; dsimp only; rw [if_pos rfl, hd]
    rw [e, h4 (by decide)]
    unfold changedF
    dsimp only
    rw [if_pos rfl, hv, if_pos h2.1]
  · have e : chT ⟨2, p, m⟩ = 61 :: d :: u := by unfold chT; dsimp only; rw [if_neg (by decide), if_pos rfl, hd]
    rw [e, h4 (by decide)]
    unfold changedF
    dsimp only
    rw [if_neg (by decide), if_pos rfl, hv, if_pos h2.1]
  · have e : chT ⟨3, p, m⟩ = dec p ++ 43 :: dec m := by unfold chT; dsimp only; rw [if_neg (by decide), if_neg (by decide)]
    have hp := chPlusF_text h2 h3
    have n1 : d ≠ 45 := fun e => by rw [e] at hdd; exact absurd hdd (by decide)
    have n2 : d ≠ 61 := fun e => by rw [e] at hdd; exact absurd hdd (by decide)
    rw [e]
    rw [hd] at hp ⊢
    rw [List.cons_append] at hp ⊢
    cases u with
    | nil =>
      unfold changedF
      dsimp only [List.nil_append]
      rw [if_neg n1, if_neg n2]
      exact hp
    | cons x u =>
      unfold changedF
      dsimp only [List.cons_append]
      rw [if_neg n1, if_neg n2]
      exact hp
/-- What all of a list are read as. -/
def allOf {α : Type} (f : Bs → Option α) : List Bs → Option (List α)
  | [] => some []
  | x :: xs => match f x with
    | none => none
    | some y => match allOf f xs with
      | none => none
      | some ys => some (y :: ys)
theorem allOf_cons {α : Type} {f : Bs → Option α} {x : Bs} {xs : List Bs} {ys : List α} (h : allOf f (x :: xs) = some ys) : ∃ y zs, f x = some y ∧ allOf f xs = some zs ∧ ys = y :: zs := by
  unfold allOf at h
  split at h
  · cases h
  · rename_i y hy
    split at h
    · cases h
    · rename_i zs hz
      cases h
      exact ⟨y, zs, hy, hz, rfl⟩
theorem allOf_snoc {α : Type} {f : Bs → Option α} {x : Bs} : ∀ {xs : List Bs}, allOf f (xs ++ [x]) = match allOf f xs with
    | none => none
    | some ys => match f x with
      | none => none
      | some y => some (ys ++ [y])
  | [] => by cases h : f x <;> simp [allOf, h]
  | z :: xs => by
    have ih := allOf_snoc (f := f) (x := x) (xs := xs)
    simp only [List.cons_append, allOf, ih]
    cases f z with
    | none => rfl
    | some y =>
      cases allOf f xs with
      | none => rfl
      | some ys => cases f x <;> rfl
theorem allOf_stop {α : Type} {f : Bs → Option α} {x : Bs} (h : f x = none) : ∀ {xs ys : List Bs}, allOf f (xs ++ x :: ys) = none
  | [], ys => by simp [allOf, h]
  | z :: xs, ys => by
    have ih := allOf_stop h (xs := xs) (ys := ys)
    simp only [List.cons_append, allOf, ih]
    cases f z <;> rfl
/-- The changes in brackets, as the reference reads them. -/
def innerF (y : Bs) : Option (List Chg) := if y.getLast? = some 41 then allOf changedF (cutF 44 y.dropLast) else none
/-- What follows the signatures of an item. -/
def tailF (a b : Int × Int) (v : Bs) : Option (List Gth) := match cutF 40 v with
  | [x] => if 0 ≤ decF x then some (if b = a then [⟨a.1, a.2, decF x, []⟩] else (runS (rankS b.1 b.2 - rankS a.1 a.2).toNat a b).map fun s => ⟨s.1, s.2, decF x, []⟩) else none
  | [x, y] => if 0 ≤ decF x ∧ b = a then (match innerF y with
    | none => none
    | some cs => some [⟨a.1, a.2, decF x, cs⟩]) else none
  | _ => none
/-- The gatherings of an item, as the reference reads them. -/
def itemsF2 (s : Bs) : Option (List Gth) := match sigF s with
  | none => none
  | some (a, t) => if t.head? = some 45 then (match sigF t.tail with
    | none => none
    | some (b, v) => if 0 ≤ rankF a.1 a.2 ∧ rankF a.1 a.2 < rankF b.1 b.2 then tailF a b v else none) else tailF a a t
theorem pnInner_is {y : Bs} {cs : List Chg} (h : innerF y = some cs) (hc : ∀ c ∈ cs, c.pos < 100 ∧ c.many < 100) : 40 :: y = chsT cs := by
  unfold innerF at h
  split at h
  · rename_i hl
    have hy : y = y.dropLast ++ [41] := by
      cases y with
      | nil => cases hl
      | cons a t =>
        rw [List.getLast?_eq_some_getLast (by simp)] at hl
        have h2 := List.dropLast_concat_getLast (l := a :: t) (by simp)
        rw [Option.some.inj hl] at h2
        exact h2.symm
    have hall : ∀ (ps : List Bs) (cs : List Chg), allOf changedF ps = some cs → (∀ c ∈ cs, c.pos < 100 ∧ c.many < 100) → ps = cs.map chT := by
      intro ps
      induction ps with
      | nil => intro cs h _; cases h; rfl
      | cons p ps ih =>
        intro cs h hc
        obtain ⟨c, ds, h1, h2, rfl⟩ := allOf_cons h
        rw [List.map_cons, ← changedF_is h1 (hc c (by simp)).1 (hc c (by simp)).2, ← ih ds h2 fun d hd => hc d (List.mem_cons_of_mem _ hd)]
    have hp := hall _ _ h hc
    have hj := cutF_join 44 y.dropLast
    have hne := cutF_ne 44 y.dropLast
    rw [hp] at hj hne
    unfold chsT
    rw [if_neg (fun e => hne (by rw [e]; rfl)), hj]
    show 40 :: y = 40 :: (y.dropLast ++ [41])
    rw [← hy]
  · cases h
theorem pnInner_text {cs : List Chg} (h : ∀ c ∈ cs, ChW c) (hn : cs ≠ []) : innerF (joinB 44 (cs.map chT) ++ [41]) = some cs := by
  unfold innerF
  rw [List.getLast?_concat, if_pos rfl, List.dropLast_concat, cutF_joinB (by simpa using hn) (fun x hx => by
    obtain ⟨c, hc, rfl⟩ := List.mem_map.1 hx
    exact chT_no (by decide) (by decide) (by decide) (by decide) (h c hc))]
  have hall : ∀ (cs : List Chg), (∀ c ∈ cs, ChW c) → allOf changedF (cs.map chT) = some cs := by
    intro cs
    induction cs with
    | nil => intro _; rfl
    | cons c cs ih =>
      intro h
      rw [List.map_cons, allOf, changedF_text (h c (by simp))]
      dsimp only
      rw [ih fun d hd => h d (List.mem_cons_of_mem _ hd)]
  exact hall cs h
theorem tail_text {a b : Int × Int} {n : Int} (h0 : 0 ≤ n) (h1 : n ≤ 12) {cs : List Chg} (hc : ∀ c ∈ cs, ChW c) (hb : b ≠ a → cs = []) :
    tailF a b (dec n ++ chsT cs) = some (if b = a then [⟨a.1, a.2, n, cs⟩] else (runS (rankS b.1 b.2 - rankS a.1 a.2).toNat a b).map fun s => ⟨s.1, s.2, n, []⟩) := by
  have hd := dec_no (c := 40) (by decide) h0 (by omega)
  have hv : decF (dec n) = n := decF_dec h0 (by omega)
  unfold tailF
  by_cases hcs : cs = []
  · subst hcs
    rw [show chsT [] = [] from rfl, List.append_nil, cutF_one 40 _ hd]
    dsimp only
    rw [hv, if_pos h0]
  · have hba : b = a := Classical.byContradiction fun h => hcs (hb h)
    have e : chsT cs = 40 :: (joinB 44 (cs.map chT) ++ [41]) := by unfold chsT; rw [if_neg hcs]; rfl
    rw [e, cutF_app 40 _ _ hd, cutF_one 40 _ (inner_no (by decide) (by decide) (by decide) (by decide) (by decide) (by decide) hc)]
    dsimp only
    rw [hv, if_pos ⟨h0, hba⟩, pnInner_text hc hcs, if_pos hba]
theorem rankF_of {r l : Int} (h : l < 23) : rankF r l = rankS r l := by unfold rankF rankS; rw [if_neg (by omega)]
theorem items_text {x : Itm} (h : ItW x) : itemsF2 (itmT x) = some (itmGs x) := by
  obtain ⟨k, fr, fl, lr, ll, lv, chs⟩ := x
  obtain ⟨h1, h2, h3, h4, h5, h6⟩ := h
  dsimp only at *
  unfold itmT itemsF2 itmGs
  dsimp only
  have hf := sigB_iff.1 h1
  have hl := sigB_iff.1 h2
  rcases h6 with ⟨rfl, rfl, rfl⟩ | ⟨rfl, h7, h8, h9, rfl⟩
  · rw [if_neg (by decide), List.append_assoc, sigF_text h1]
    dsimp only
    obtain ⟨d, u, hd, hdd⟩ := dec_head h3.1 h3.2
    rw [if_neg (by
      rw [hd]
      simp only [List.cons_append, List.head?_cons, Option.some.injEq]
      intro e
      rw [e] at hdd
      exact absurd hdd (by decide)), tail_text h3.1 h3.2 h5 (fun h => absurd rfl h), if_pos rfl, if_pos rfl]
  · have hr := rank_behind ⟨hl.2.2.1, h8⟩ ⟨hf.2.2.1, h7⟩ h9
    have hne : ((lr, ll) : Int × Int) ≠ (fr, fl) := fun e => by
      cases e
      omega
    rw [if_pos rfl, List.append_assoc, List.append_assoc, sigF_text h1]
    dsimp only
    rw [List.cons_append, List.head?_cons, if_pos rfl, List.tail_cons, sigF_text h2]
    dsimp only
    rw [if_pos (by rw [rankF_of h7, rankF_of h8]; refine ⟨?_, hr⟩; unfold rankS; omega), tail_text h3.1 h3.2 h5 (fun _ => rfl), if_neg hne, if_neg (by decide)]
theorem tail_is {a b : Int × Int} {v : Bs} {gs : List Gth} (h : tailF a b v = some gs) (hg : ∀ g ∈ gs, g.leaves < 100 ∧ ∀ c ∈ g.chs, c.pos < 100 ∧ c.many < 100) (hne : gs ≠ []) :
    ∃ n cs, 0 ≤ n ∧ v = dec n ++ chsT cs ∧ (b ≠ a → cs = []) ∧ gs = if b = a then [⟨a.1, a.2, n, cs⟩] else (runS (rankS b.1 b.2 - rankS a.1 a.2).toNat a b).map fun s => ⟨s.1, s.2, n, []⟩ := by
  unfold tailF at h
  have hj := cutF_join 40 v
  split at h
  · rename_i x hc
    rw [hc] at hj
    split at h
    · rename_i hd
      cases h
      have hx : x = dec (decF x) := by
        refine decF_dec_is hd ?_
        by_cases hba : b = a
        · rw [if_pos hba] at hg
          exact (hg ⟨a.1, a.2, decF x, []⟩ (List.mem_singleton.2 rfl)).1
        · rw [if_neg hba, runS_head] at hg
          exact (hg ⟨a.1, a.2, decF x, []⟩ (by simp)).1
      exact ⟨decF x, [], hd, by rw [← hj, ← hx]; simp [joinB, chsT], fun _ => rfl, rfl⟩
    · cases h
  · rename_i x y hc
    rw [hc] at hj
    split at h
    · rename_i hd
      split at h
      · cases h
      · rename_i cs hi
        cases h
        have hg0 := hg ⟨a.1, a.2, decF x, cs⟩ (List.mem_singleton.2 rfl)
        have hx := decF_dec_is hd.1 hg0.1
        refine ⟨decF x, cs, hd.1, ?_, fun h => absurd hd.2 h, by rw [if_pos hd.2]⟩
        rw [← pnInner_is hi hg0.2, ← hx, ← hj]
        rfl
    · cases h
  · cases h
theorem tail_ne {a b : Int × Int} {v : Bs} {gs : List Gth} (h : tailF a b v = some gs) : gs ≠ [] := by
  rintro rfl
  unfold tailF at h
  split at h
  · rename_i x hc
    by_cases hd : 0 ≤ decF x
    · rw [if_pos hd] at h
      have h := Option.some.inj h
      by_cases hba : b = a
      · rw [if_pos hba] at h
        cases h
      · rw [if_neg hba, runS_head] at h
        cases h
    · rw [if_neg hd] at h
      cases h
  · rename_i x y hc
    split at h
    · split at h <;> cases h
    · cases h
  · cases h
theorem chg_ok {cs : List Chg} {n : Int} (hn : n ≤ 12) (h : (chsErr n none 0 cs).2 = 0) : ∀ c ∈ cs, ChW c ∧ c.pos < 100 ∧ c.many < 100 := fun c hc => by
  obtain ⟨h1, h2⟩ := chsErr_zero h c hc
  unfold rangeB at h2
  have hk : c.kind = 1 ∨ c.kind = 2 ∨ c.kind = 3 := by
    unfold kindB at h1
    simp only [Bool.or_eq_true, decide_eq_true_eq] at h1
    omega
  split at h2
  · rename_i h3
    simp only [Bool.and_eq_true, inB_iff] at h2
    exact ⟨⟨hk, by omega, by omega, fun h => absurd h3 h⟩, by omega, by omega⟩
  · rename_i h3
    simp only [Bool.and_eq_true, inB_iff, decide_eq_true_eq] at h2
    exact ⟨⟨hk, by omega, by omega, fun _ => h2.2⟩, by omega, by omega⟩
theorem items_is {s : Bs} {gs : List Gth} (h : itemsF2 s = some gs) (hg : ∀ g ∈ gs, GOk g) : ∃ x, ItW x ∧ s = itmT x ∧ itmGs x = gs := by
  have hgl : ∀ g ∈ gs, g.leaves < 100 ∧ ∀ c ∈ g.chs, c.pos < 100 ∧ c.many < 100 := fun g hm =>
    ⟨by have := (hg g hm).leaves; omega, fun c hc => (chg_ok (by have := (hg g hm).leaves; omega) (hg g hm).chs c hc).2⟩
  unfold itemsF2 at h
  split at h
  · cases h
  · rename_i a t hs
    have e1 := sigF_is hs
    have s1 := (sigF_len hs).2
    obtain ⟨a1, a2⟩ := a
    dsimp only at *
    have b1 := sigB_iff.1 s1
    split at h
    · rename_i hh
      split at h
      · cases h
      · rename_i b v hs2
        have e2 := sigF_is hs2
        have s2 := (sigF_len hs2).2
        obtain ⟨c1, c2⟩ := b
        dsimp only at *
        have b2 := sigB_iff.1 s2
        split at h
        · rename_i hr
          have hl1 : a2 < 23 := by
            have := hr.1
            unfold rankF at this
            split at this <;> omega
          have hl2 : c2 < 23 := by
            have := hr.1
            have := hr.2
            unfold rankF at this
            split at this
            · rename_i h23
              split at this <;> omega
            · split at this <;> omega
          rw [rankF_of hl1, rankF_of hl2] at hr
          have hne : ((c1, c2) : Int × Int) ≠ (a1, a2) := fun e => by
            cases e
            omega
          have hgn := tail_ne h
          obtain ⟨n, cs, h0, hv, hcs, hgs⟩ := tail_is h hgl hgn
          rw [if_neg hne] at hgs
          have hcs := hcs hne
          subst hcs
          have hn : n ≤ 12 := by
            rw [runS_head] at hgs
            have := (hg ⟨a1, a2, n, []⟩ (by rw [hgs]; simp)).leaves
            dsimp only at this
            omega
          refine ⟨⟨1, a1, a2, c1, c2, n, []⟩, ⟨s1, s2, ⟨h0, hn⟩, by simp, (fun c hc => by cases hc), Or.inr ⟨rfl, hl1, hl2, ?_, rfl⟩⟩, ?_, ?_⟩
          · have := hr.2
            unfold rankS at this
            show behindB c1 c2 a1 a2 = true
            unfold behindB
            split
            · exact decide_eq_true (by subst_vars; omega)
            · exact decide_eq_true (by omega)
          · have ht : t = 45 :: t.tail := by
              cases t with
              | nil => cases hh
              | cons x t => rw [List.head?_cons] at hh; cases hh; rfl
            rw [e1, ht, e2, hv]
            unfold itmT
            dsimp only
            rw [if_pos rfl]
            simp
          · rw [hgs]
            unfold itmGs
            dsimp only
            rw [if_neg (by decide)]
        · cases h
    · have hgn := tail_ne h
      obtain ⟨n, cs, h0, hv, -, hgs⟩ := tail_is h hgl hgn
      rw [if_pos rfl] at hgs
      have hgo := hg ⟨a1, a2, n, cs⟩ (by rw [hgs]; simp)
      have hn := hgo.leaves
      dsimp only at hn
      refine ⟨⟨0, a1, a2, a1, a2, n, cs⟩, ⟨s1, s1, ⟨h0, by dsimp only; omega⟩, hgo.few, fun c hc => (chg_ok (by show n ≤ 12; omega) hgo.chs c hc).1, Or.inl ⟨rfl, rfl, rfl⟩⟩, ?_, ?_⟩
      · rw [e1, hv]
        unfold itmT
        dsimp only
        rw [if_neg (by decide)]
        simp
      · rw [hgs]
        unfold itmGs
        dsimp only
        rw [if_pos rfl]

/-- The words of a formula but the last one, as the reference reads them. -/
def wordsF (ws : List Bs) : Option (List Gth) := match allOf itemsF2 ws with
  | none => none
  | some gss => some gss.flatten
/-- What the reference reads of words. -/
def refBookF (ws : List Bs) (l : Bs) : Bk × Int := if l.length < 2 ∨ l.head? ≠ some 36 then (⟨0, []⟩, 6) else match wordsF ws with
  | none => (⟨0, []⟩, 6)
  | some gs => if errF ⟨decF l.tail, gs⟩ = 0 then (⟨decF l.tail, gs⟩, 0) else (⟨0, []⟩, 6)
theorem words_text : ∀ {xs : List Itm}, (∀ x ∈ xs, ItW x) → allOf itemsF2 (xs.map itmT) = some (xs.map itmGs)
  | [], _ => rfl
  | x :: xs, h => by
    have ih := words_text (xs := xs) fun y hy => h y (List.mem_cons_of_mem _ hy)
    rw [List.map_cons, allOf, items_text (h x (by simp))]
    dsimp only
    rw [ih]
    rfl
theorem words_is : ∀ {ws : List Bs} {gss : List (List Gth)}, allOf itemsF2 ws = some gss → (∀ g ∈ gss.flatten, GOk g) → ∃ xs : List Itm, ws = xs.map itmT ∧ gss = xs.map itmGs ∧ ∀ x ∈ xs, ItW x
  | [], gss, h, _ => by
    cases h
    exact ⟨[], rfl, rfl, fun x hx => by cases hx⟩
  | w :: ws, gss, h, hg => by
    obtain ⟨gs, hs, h1, h2, rfl⟩ := allOf_cons h
    rw [List.flatten_cons] at hg
    obtain ⟨x, k1, k2, k3⟩ := items_is h1 fun g hm => hg g (List.mem_append_left _ hm)
    obtain ⟨xs, l1, l2, l3⟩ := words_is h2 fun g hm => hg g (List.mem_append_right _ hm)
    refine ⟨x :: xs, by rw [List.map_cons, ← k2, ← l1], by rw [List.map_cons, k3, ← l2], fun y hy => ?_⟩
    rcases List.mem_cons.1 hy with rfl | hy
    · exact k1
    · exact l3 y hy
theorem joinB_end (c : UInt8) (l : Bs) : ∀ ws : List Bs, joinB c (ws ++ [l]) = (ws.flatMap fun x => x ++ [c]) ++ l
  | [] => by simp [joinB]
  | [x] => by simp [joinB]
  | x :: y :: ws => by
    have ih := joinB_end c l (y :: ws)
    rw [List.cons_append, List.cons_append, joinB, ← List.cons_append, ih]
    simp
/-- **The reference reads as the program does.** -/
theorem refBook_is {s : Bs} {ws : List Bs} {l : Bs} (hs : s.length ≤ 1000) (hw : cutF 32 s = ws ++ [l]) : refBookF ws l = readF s := by
  have hr : readF s = match allF (bookF s) with
    | none => (⟨0, []⟩, 6)
    | some b => if errF b = 0 then (b, 0) else (⟨0, []⟩, 6) := by
    unfold readF
    rw [if_neg (by omega)]
    cases allF (bookF s) <;> rfl
  -- what the program reads, the reference reads
  have k1 : ∀ b, allF (bookF s) = some b → errF b = 0 → refBookF ws l = (b, 0) := by
    intro b h he
    obtain ⟨xs, hx, hg, hi, h0, h1⟩ := bookF_is h
    have hc := cut_items (n := b.signed) h0 (by omega) hi
    rw [← hx, hw] at hc
    obtain ⟨e1, e2⟩ := List.append_inj' hc (by simp)
    cases e2
    unfold refBookF
    rw [if_neg (by
      obtain ⟨d, u, e, -⟩ := dec_head h0 h1
      rw [e]
      simp)]
    have hwd : wordsF ws = some b.gs := by
      unfold wordsF
      rw [e1, words_text hi]
      dsimp only
      rw [hg]
      unfold gsOf
      rw [List.flatMap_def]
    rw [hwd]
    show (if errF ⟨decF (dec b.signed), b.gs⟩ = 0 then ((⟨decF (dec b.signed), b.gs⟩ : Bk), (0 : Int)) else (⟨0, []⟩, 6)) = (b, 0)
    rw [show (⟨decF (dec b.signed), b.gs⟩ : Bk) = b from by rw [decF_dec h0 (by omega)], if_pos he]
  -- and what the reference reads, the program reads
  have k2 : ∀ b, refBookF ws l = (b, 0) → allF (bookF s) = some b ∧ errF b = 0 := by
    intro b h
    unfold refBookF at h
    split at h
    · cases h
    · rename_i hl
      split at h
      · cases h
      · rename_i gs hgs
        split at h
        · rename_i he
          cases h
          refine ⟨?_, he⟩
          have hb := errF_zero he
          have h0 := hb.signed
          have hgo := hb.gs
          dsimp only at h0 hgo
          unfold wordsF at hgs
          split at hgs
          · cases hgs
          · rename_i gss hss
            cases hgs
            obtain ⟨xs, e1, e2, hi⟩ := words_is hss hgo
            have ht := decF_dec_is h0.1 (by omega)
            have hl2 : l = 36 :: l.tail := by
              cases l with
              | nil => exact absurd (Or.inl (by simp)) hl
              | cons x t =>
                have : x = 36 := Classical.byContradiction fun e => hl (Or.inr (by simpa using e))
                rw [this]
                rfl
            have hj := cutF_join 32 s
            rw [hw, joinB_end, e1] at hj
            have hs2 : s = itemsT xs ++ 36 :: dec (decF l.tail) := by
              rw [← hj, ← ht, ← hl2]
              unfold itemsT
              rw [List.flatMap_map]
            have hbk := bookF_text hi h0.1 h0.2
            rw [← hs2] at hbk
            rw [hbk]
            have e3 : gsOf xs = gss.flatten := by rw [e2]; unfold gsOf; rw [List.flatMap_def]
            rw [e3]
            rfl
        · cases h
  have k3 : refBookF ws l = (⟨0, []⟩, 6) ∨ ∃ b, refBookF ws l = (b, 0) := by
    unfold refBookF
    split
    · exact Or.inl rfl
    · split
      · exact Or.inl rfl
      · split
        · exact Or.inr ⟨_, rfl⟩
        · exact Or.inl rfl
  rw [hr]
  rcases k3 with k3 | ⟨b, k3⟩
  · cases hb : allF (bookF s) with
    | none => exact k3
    | some b =>
      dsimp only
      by_cases he : errF b = 0
      · rw [if_pos he]; exact k1 b hb he
      · rw [if_neg he]; exact k3
  · obtain ⟨h1, h2⟩ := k2 b k3
    rw [h1]
    dsimp only
    rw [if_pos h2]
    exact k3
end Go.Proofs.YtimdmgkegdlafaaGreatDoor

/- Plain facts: ANY formula of a book, gathering by gathering. -/
namespace Go.Proofs.YtimdmgkegdlafaaGreatDoor
set_option linter.unusedSimpArgs false
set_option linter.unusedVariables false

theorem gth_part {seen seen' : List (Int × Int)} {last last' : Int × Int} {g : Gth} (h : gthErr seen last g = 0) (hs : ∀ p ∈ seen', p ∈ seen) (hl : g.letter < 23 → behindB g.round g.letter last'.1 last'.2 = true) : gthErr seen' last' g = 0 := by
  unfold gthErr at h ⊢
  split at h
  · exact absurd h (by decide)
  · rename_i h1
    rw [if_neg h1]
    split at h
    · exact absurd h (by decide)
    · rename_i h2
      rw [if_neg (fun hm => h2 (hs _ hm))]
      split at h
      · exact absurd h (by decide)
      · rw [if_neg (fun hm => by rw [hl hm.1] at hm; exact absurd hm.2 (by decide))]
        exact h
theorem gsErr_two : ∀ (gs : List Gth) (k : Nat) (g h : Gth) (seen : List (Int × Int)) (last : Int × Int) (i : Nat), gs[k]? = some g → gs[k + 1]? = some h → (gsErr seen last i gs).2 = 0 → ∃ seen' last', gthErr seen' last' g = 0 ∧ gthErr (seen' ++ [(g.round, g.letter)]) (lastOf last' g) h = 0
  | [], k, g, h, seen, last, i, hg, _, _ => by cases hg
  | x :: gs, 0, g, h, seen, last, i, hg, hh, he => by
    simp only [List.getElem?_cons_zero, Option.some.injEq] at hg
    subst hg
    unfold gsErr at he
    split at he
    · rename_i h0
      refine ⟨seen, last, h0, ?_⟩
      cases gs with
      | nil => cases hh
      | cons y gs =>
        simp only [Nat.zero_add, List.getElem?_cons_succ, List.getElem?_cons_zero, Option.some.injEq] at hh
        subst hh
        unfold gsErr at he
        split at he
        · rename_i h1; exact h1
        · rename_i h1; exact absurd he h1
    · rename_i h0; exact absurd he h0
  | x :: gs, k + 1, g, h, seen, last, i, hg, hh, he => by
    unfold gsErr at he
    split at he
    · exact gsErr_two gs k g h _ _ _ (by simpa using hg) (by simpa using hh) he
    · rename_i h0; exact absurd he h0
theorem behind_zero {r l : Int} (h : 1 ≤ r) : behindB r l 0 0 = true := by
  unfold behindB
  rw [if_neg (by omega)]
  exact decide_eq_true (by omega)
theorem gok_err {g : Gth} (h : GOk g) : gthErr [] (0, 0) g = 0 := by
  unfold gthErr
  rw [if_neg (by rw [h.sig]; decide), if_neg (by simp), if_neg (fun hm => by rw [behind_zero (sigB_iff.1 h.sig).1] at hm; exact absurd hm.2 (by decide)), if_neg (by rw [h.folded]; decide), if_neg (by have := h.few; omega)]
  exact h.chs
theorem err_one {g : Gth} (h : GOk g) : errF ⟨0, [g]⟩ = 0 := by
  refine err_of rfl rfl ?_
  show (gsErr [] (0, 0) 0 [g]).2 = 0
  unfold gsErr
  rw [if_pos (gok_err h)]
  rfl
theorem err_two {b : Bk} (he : errF b = 0) {i : Nat} {g h : Gth} (hg : b.gs[i]? = some g) (hh : b.gs[i + 1]? = some h) : errF ⟨0, [g, h]⟩ = 0 := by
  obtain ⟨-, -, h3⟩ := err_is he
  obtain ⟨seen, last, -, h5⟩ := gsErr_two _ _ _ _ _ _ _ hg hh h3
  have hgo := (errF_zero he).gs g (List.mem_of_getElem? hg)
  have hho := (errF_zero he).gs h (List.mem_of_getElem? hh)
  refine err_of rfl rfl ?_
  show (gsErr [] (0, 0) 0 [g, h]).2 = 0
  unfold gsErr
  rw [if_pos (gok_err hgo)]
  unfold gsErr
  rw [if_pos (gth_part h5 (by simp) (fun hl => by
    unfold lastOf
    by_cases hgl : g.letter < 23
    · rw [if_pos hgl]
      unfold gthErr at h5
      rw [if_neg (by rw [hho.sig]; decide)] at h5
      split at h5
      · exact absurd h5 (by decide)
      · split at h5
        · exact absurd h5 (by decide)
        · rename_i h6
          unfold lastOf at h6
          rw [if_pos hgl] at h6
          cases hb : behindB h.round h.letter (g.round, g.letter).1 (g.round, g.letter).2 with
          | true => rfl
          | false => exact absurd ⟨hl, hb⟩ h6
    · rw [if_neg hgl]
      exact behind_zero (sigB_iff.1 hho.sig).1))]
  rfl
theorem write_one (g : Gth) : writeF ⟨0, [g]⟩ = itmT (itm1 g) ++ [32, 36, 48] := by
  show formulaT 0 [itm1 g] = _
  rw [formulaT_is, itemsT_cons, show dec 0 = [48] from by decide]
  simp [itemsT]
theorem cut_two {g h : Gth} (hg : GOk g) (hh : GOk h) : (cutF 32 (writeF ⟨0, [g, h]⟩)).length = if takesB (itm1 g) h then 2 else 3 := by
  have hw : ∀ y ∈ itmsOf [g, h], ItW y := (itmsOf_back [g, h] [] (fun x hx => by
    simp only [List.mem_cons, List.not_mem_nil, or_false] at hx
    rcases hx with rfl | rfl
    · exact hg
    · exact hh) (fun y hy => by cases hy)).2
  have e : writeF ⟨0, [g, h]⟩ = itemsT (itmsOf [g, h]) ++ 36 :: dec 0 := formulaT_is _ _
  rw [e, cut_items (by decide) (by decide) hw, List.length_append, List.length_map]
  have e2 : itmsOf [g, h] = itmStep ([] ++ [itm1 g]) h := rfl
  rw [e2]
  cases ht : takesB (itm1 g) h with
  | true => rw [step_yes ht]; rfl
  | false => rw [step_no ht]; rfl

/-- What ANY formula is made of when it has come to a gathering: the items that are done, and whether one is open. -/
structure Oth (b : Bk) (i f : Nat) (ys : List Itm) : Prop where
  good : ∀ y ∈ ys, ItW y
  cur : (f = i ∧ gsOf ys = b.gs.take i) ∨ (f < i ∧ i < b.gs.length ∧ ∃ y a g0, b.gs[f]? = some a ∧ ItW y ∧ EndsAt y a g0 ∧ gsOf ys ++ itmGs y = b.gs.take i ∧ ∀ g, b.gs[i]? = some g → takesB y g = true)
theorem Oth.start (b : Bk) : Oth b 0 0 [] := ⟨(fun y hy => by cases hy), Or.inl ⟨rfl, rfl⟩⟩
theorem take_one {gs : List Gth} {i : Nat} {g : Gth} (h : gs[i]? = some g) : gs.take (i + 1) = gs.take i ++ [g] := by
  rw [List.take_add_one, h]
  rfl
theorem itmGs_one (g : Gth) : itmGs (itm1 g) = [g] := by
  unfold itmGs itm1
  dsimp only
  rw [if_pos rfl]
theorem Oth.item {b : Bk} {i f : Nat} {ys : List Itm} (h : Oth b i f ys) {g : Gth} (hg : b.gs[i]? = some g) (hgo : GOk g) : ∃ x a, b.gs[f]? = some a ∧ ItW x ∧ EndsAt x a g ∧ gsOf ys ++ itmGs x = b.gs.take (i + 1) ∧
    itmT x = (if f < i then sigT a.round a.letter ++ [45] else []) ++ itmT (itm1 g) := by
  rcases h.cur with ⟨rfl, h1⟩ | ⟨h1, h2, y, a, g0, h3, h4, h5, h6, h7⟩
  · refine ⟨itm1 g, g, hg, itm1_w hgo, ends_one g, by rw [h1, itmGs_one, take_one hg], ?_⟩
    rw [if_neg (Nat.lt_irrefl _)]
    rfl
  · have ht := h7 g hg
    obtain ⟨k1, k2⟩ := itmGs_more h4 hgo ht
    have k3 := ends_more h5 ht
    refine ⟨_, a, h3, k1, k3, by rw [k2, ← List.append_assoc, h6, take_one hg], ?_⟩
    obtain ⟨c1, c2, c3, c4, c5⟩ := takes_iff.1 ht
    rw [if_pos h1]
    unfold itmT itm1
    dsimp only
    rw [if_pos rfl, if_neg (by decide), h5.fr, h5.fl, c3, c1, c2]
    simp
theorem Oth.stay {b : Bk} {i f : Nat} {ys : List Itm} (h : Oth b i f ys) {g k : Gth} (hg : b.gs[i]? = some g) (hk : b.gs[i + 1]? = some k) (hgo : GOk g) (hko : GOk k) (ht : takesB (itm1 g) k = true) : Oth b (i + 1) f ys := by
  obtain ⟨x, a, h1, h2, h3, h4, -⟩ := h.item hg hgo
  have hf : f < i + 1 := by
    rcases h.cur with ⟨rfl, -⟩ | ⟨h1, -⟩ <;> omega
  refine ⟨h.good, Or.inr ⟨hf, (List.getElem?_eq_some_iff.1 hk).1, x, a, g, h1, h2, h3, h4, fun z hz => ?_⟩⟩
  rw [hk] at hz
  cases hz
  rw [taken_is h3 hgo hko, ← taken_is (ends_one g) hgo hko]
  exact ht
theorem Oth.put {b : Bk} {i f : Nat} {ys : List Itm} (h : Oth b i f ys) {g : Gth} (hg : b.gs[i]? = some g) (hgo : GOk g) : ∃ x a, b.gs[f]? = some a ∧ Oth b (i + 1) (i + 1) (ys ++ [x]) ∧
    itemsT (ys ++ [x]) = itemsT ys ++ (if f < i then sigT a.round a.letter ++ [45] else []) ++ (itmT (itm1 g) ++ [32]) := by
  obtain ⟨x, a, h1, h2, h3, h4, h5⟩ := h.item hg hgo
  refine ⟨x, a, h1, ⟨fun y hy => ?_, Or.inl ⟨rfl, by rw [gsOf_snoc, h4]⟩⟩, ?_⟩
  · rcases List.mem_append.1 hy with hy | hy
    · exact h.good y hy
    · rw [List.mem_singleton.1 hy]
      exact h2
  · rw [itemsT_snoc, h5]
    simp
theorem Oth.done {b : Bk} {f : Nat} {ys : List Itm} (h : Oth b b.gs.length f ys) : gsOf ys = b.gs := by
  rcases h.cur with ⟨-, h1⟩ | ⟨-, h2, -⟩
  · rw [h1, List.take_length]
  · omega
theorem Oth.upto {b : Bk} {i f : Nat} {ys : List Itm} (h : Oth b i f ys) : f ≤ i := by
  rcases h.cur with ⟨h1, -⟩ | ⟨h1, -⟩ <;> omega
/-- **ANY formula of a book is read as it, and is not shorter than the one that is written.** -/
theorem Oth.read {b : Bk} {f : Nat} {ys : List Itm} (h : Oth b b.gs.length f ys) (he : errF b = 0) :
    ((itemsT ys ++ 36 :: dec b.signed).length ≤ 1000 → readF (itemsT ys ++ 36 :: dec b.signed) = (b, 0)) ∧ (itemsT ys ++ 36 :: dec b.signed = writeF b ∨ (writeF b).length < (itemsT ys ++ 36 :: dec b.signed).length) := by
  have hs := (errF_zero he).signed
  have hb := bookF_text h.good hs.1 hs.2
  rw [h.done] at hb
  have ha := allF_book hb
  refine ⟨fun hl => ?_, write_short ha⟩
  unfold readF
  rw [if_neg (by omega), ha]
  dsimp only
  rw [if_pos he]
end Go.Proofs.YtimdmgkegdlafaaGreatDoor

/- The book of the examples, as plain Lean and in memory. -/
namespace Go.Proofs.YtimdmgkegdlafaaGreatDoor
set_option linter.unusedSimpArgs false
set_option linter.unusedVariables false
open Go Go.RowKit Go.Sort Go.BigFrame

/-- The changes of the examples' gathering D. -/
def exChs (k : Nat) : List Chg := [⟨1, 3, 0⟩, ⟨2, 5, 0⟩, ⟨3, 8, 1⟩].take (3 - k)
/-- The book of the examples, and the same without the last k changes. -/
def exBook (k : Nat) : Bk := ⟨4, [⟨1, 23, 2, []⟩, ⟨1, 0, 8, []⟩, ⟨1, 1, 8, []⟩, ⟨1, 2, 8, []⟩, ⟨1, 3, 8, exChs k⟩, ⟨1, 24, 1, []⟩]⟩

/-- The cells of the gatherings. -/
def exCells (sv : Value) : Array Value :=
  #[.int .i64 1, .int .i64 23, .int .i64 2, .slice none 0 0, .int .i64 1, .int .i64 0, .int .i64 8, .slice none 0 0, .int .i64 1, .int .i64 1, .int .i64 8, .slice none 0 0,
    .int .i64 1, .int .i64 2, .int .i64 8, .slice none 0 0, .int .i64 1, .int .i64 3, .int .i64 8, sv, .int .i64 1, .int .i64 24, .int .i64 1, .slice none 0 0]
def exChCells : Array Value := #[.int .i64 1, .int .i64 3, .int .i64 0, .int .i64 2, .int .i64 5, .int .i64 0, .int .i64 3, .int .i64 8, .int .i64 1]

theorem exChs_nil {B : Nat} {w : World} : ChsAt B w (.slice none 0 0) [] := ⟨none, 0, rfl, fun h => absurd rfl h⟩
theorem exChs_at {w : World} {C k : Nat} (hk : k ≤ 1) {e : TypeId} (h : w.heap[C]? = some (.cells exChCells e)) (hC : C < w.heap.size) :
    ChsAt w.heap.size w (.slice (some ⟨C, 0, none⟩) (3 - k) 3) (exChs k) := by
  refine ⟨some ⟨C, 0, none⟩, 3, by obtain rfl | rfl : k = 0 ∨ k = 1 := by omega
                                   all_goals rfl, fun _ => ⟨C, 0, rfl, hC, fun i c hc => ?_⟩⟩
  have hh : ∀ j v, exChCells[j]? = some v → w.cell? ⟨C, j, none⟩ = some v := fun j v hv => by simp [World.cell?, h, hv]
  obtain rfl | rfl : k = 0 ∨ k = 1 := by omega
  · rcases i with _ | _ | _ | i
    · cases hc; exact ⟨hh _ _ rfl, hh _ _ rfl, hh _ _ rfl⟩
    · cases hc; exact ⟨hh _ _ rfl, hh _ _ rfl, hh _ _ rfl⟩
    · cases hc; exact ⟨hh _ _ rfl, hh _ _ rfl, hh _ _ rfl⟩
    · simp [exChs] at hc
  · rcases i with _ | _ | i
    · cases hc; exact ⟨hh _ _ rfl, hh _ _ rfl, hh _ _ rfl⟩
    · cases hc; exact ⟨hh _ _ rfl, hh _ _ rfl, hh _ _ rfl⟩
    · simp [exChs] at hc

theorem exBook_at {w : World} {C G k : Nat} (hk : k ≤ 1) {e f : TypeId} (h : w.heap[C]? = some (.cells exChCells e)) (hC : C < w.heap.size)
    (hg : w.heap[G]? = some (.cells (exCells (.slice (some ⟨C, 0, none⟩) (3 - k) 3)) f)) (hG : G < w.heap.size) :
    BookAt w.heap.size w (.agg #[.int .i64 4, .slice (some ⟨G, 0, none⟩) 6 6]) (exBook k) := by
  refine ⟨_, rfl, some ⟨G, 0, none⟩, 6, rfl, fun _ => ⟨G, 0, rfl, hG, fun i g hi => ?_⟩⟩
  have hh : ∀ j v, (exCells (.slice (some ⟨C, 0, none⟩) (3 - k) 3))[j]? = some v → w.cell? ⟨G, j, none⟩ = some v := fun j v hv => by simp [World.cell?, hg, hv]
  rcases i with _ | _ | _ | _ | _ | _ | i
  · cases hi; exact ⟨_, exChs_nil, hh _ _ rfl, hh _ _ rfl, hh _ _ rfl, hh _ _ rfl⟩
  · cases hi; exact ⟨_, exChs_nil, hh _ _ rfl, hh _ _ rfl, hh _ _ rfl, hh _ _ rfl⟩
  · cases hi; exact ⟨_, exChs_nil, hh _ _ rfl, hh _ _ rfl, hh _ _ rfl, hh _ _ rfl⟩
  · cases hi; exact ⟨_, exChs_nil, hh _ _ rfl, hh _ _ rfl, hh _ _ rfl, hh _ _ rfl⟩
  · cases hi; exact ⟨_, exChs_at hk h hC, hh _ _ rfl, hh _ _ rfl, hh _ _ rfl, hh _ _ rfl⟩
  · cases hi; exact ⟨_, exChs_nil, hh _ _ rfl, hh _ _ rfl, hh _ _ rfl, hh _ _ rfl⟩
  · simp [exBook] at hi

end Go.Proofs.YtimdmgkegdlafaaGreatDoor

/- Contract of Read. -/
namespace Go.Proofs.YtimdmgkegdlafaaGreatDoor
set_option linter.unusedSimpArgs false
set_option linter.unusedVariables false
open Go Go.RowKit Go.Sort Go.BigFrame

/-- What Read hands back. -/
def ReadR (r : Bk × Int) (w : World) (e : Ending) (w' : World) : Prop :=
  (∃ v, e = .returned (.tuple #[v, .int .i64 r.2]) ∧ BookIn w.heap.size w' v r.1) ∧ Below w.heap.size w w'

theorem BookIn.none (lo : Nat) (W : World) : BookIn lo W (.agg #[.int .i64 0, .slice none 0 0]) ⟨0, []⟩ := ⟨_, rfl, [], rfl, World.ownsRow_nil _ _ _ _, fun z hz => (by cases hz)⟩
theorem checkR_eq' (b : Bk) : checkR b = .tuple #[.int .i64 (checkF b).1, .int .i64 (checkF b).2.1, .int .i64 (errF b)] := rfl
theorem BookIn.only {lo : Nat} {W W' : World} {v : Value} {b : Bk} {X : Nat → Prop} (h : BookIn lo W v b) (ho : OnlyIn X W W') (hX : ∀ k, X k → k < lo) : BookIn lo W' v b := by
  obtain ⟨sv, he, hg⟩ := h
  exact ⟨sv, he, hg.only ho hX⟩
theorem BookIn.mono {lo lo' : Nat} {W : World} {v : Value} {b : Bk} (h : BookIn lo W v b) (hl : lo' ≤ lo) : BookIn lo' W v b := by
  obtain ⟨sv, he, hg⟩ := h
  exact ⟨sv, he, hg.mono hl⟩
theorem BookIn.shape {lo : Nat} {W : World} {v : Value} {b : Bk} (h : BookIn lo W v b) : ∃ a n c, v = .agg #[.int .i64 b.signed, .slice a n c] := by
  obtain ⟨sv, rfl, zs, -, hrow, -⟩ := h
  rcases hrow.2 with ⟨rfl, -⟩ | ⟨g', cap, cur, rfl, -⟩
  · exact ⟨_, _, _, rfl⟩
  · exact ⟨_, _, _, rfl⟩

set_option maxRecDepth 100000 in
set_option maxHeartbeats 4000000 in
theorem Read_any (s : Bs) (w : World) (hs : s.length ≤ 9223372036854775807) :
    Calls Tryz.prog 9 #[S s] w (ReadR (readF s) w) := by
  by_cases h1 : 1000 < s.length
  · have hF : Hid (readF s = (⟨0, []⟩, 3)) := by show _ = _; simp [readF, h1]
    have hz : (1000 : Int) < (s.length : Int) := by omega
    go_enter Tryz.func9, Tryz.ntmps9
    go_wp2_with fail
    refine bodyPost_ret (v := .tuple #[.agg #[.int .i64 0, .slice none 0 0], .int .i64 3]) (by simp [results, Tryz.results9, go_sem]) rfl ?_
    rw [hF.out]
    exact ⟨⟨_, rfl, BookIn.none _ _⟩, (by repeat (first | exact Below.refl _ _ | assumption | (refine Below.alloc ?_ ?_ _; rotate_left; · (first | omega | (simp; done) | (simp; omega) | fail)) | (refine Below.setCell ?_ ?_ _; rotate_left; · (first | omega | (simp; done) | (simp; omega) | fail)) | refine Below.drew ?_ | fail))⟩
  · have hz : ¬ (1000 : Int) < (s.length : Int) := by omega
    have hsl : s.length ≤ 1000 := by omega
    obtain ⟨w1, hw1⟩ : ∃ w1, w1 = w.alloc (.cells #[.int .i64 0, .slice none 0 0] 24) := ⟨_, rfl⟩
    have p1 : w1.heap[w.heap.size]? = some (.cells #[.int .i64 0, .slice none 0 0] 24) := by rw [hw1]; exact (by repeat (first | exact heap_alloc_at _ _ _ (by (first | omega | (simp; done) | (simp; omega) | fail)) | (refine (heap_alloc_past _ _ _ ?_).trans ?_; · (first | omega | (simp; done) | (simp; omega) | fail)) | fail))
    have hb1 : Below w.heap.size w w1 := by rw [hw1]; exact (by repeat (first | exact Below.refl _ _ | assumption | (refine Below.alloc ?_ ?_ _; rotate_left; · (first | omega | (simp; done) | (simp; omega) | fail)) | (refine Below.setCell ?_ ?_ _; rotate_left; · (first | omega | (simp; done) | (simp; omega) | fail)) | refine Below.drew ?_ | fail))
    have HP := Lib.hid p1
    have HB := Lib.hid hb1
    have hz1 := blk_lt p1
    have HR : Hid (readF s = match allF (bookF s) with | none => (⟨0, []⟩, 6) | some b => if errF b = 0 then (b, 0) else (⟨0, []⟩, 6)) := by show _ = _; unfold readF; rw [if_neg h1]; cases allF (bookF s) <;> rfl
    go_enter Tryz.func9, Tryz.ntmps9
    go_wp2_with fail
    rw [← hw1]
    clear hw1 p1 hb1 h1
    refine (parseB_any s _ hsl).mono ?_
    intro e w2 hp
    cases hl : allF (bookF s) with
    | none =>
      rw [hl] at hp
      obtain ⟨rfl, hb⟩ := hp
      have hF : Hid (readF s = (⟨0, []⟩, 6)) := by show _ = _; rw [HR.out, hl]
      have HP2 := Lib.hid (blk_later hb HP.out)
      have HB2 := Lib.hid (HB.out.trans (hb.mono (by omega)))
      have c0 := blk_cell HP2.out 0; have c1 := blk_cell HP2.out 1
      have f0 := blk_free HP2.out 0; have f1 := blk_free HP2.out 1
      have hz2 := blk_lt HP2.out
      clear hb hl
      go_wp2_with fail
      refine bodyPost_ret (v := .tuple #[.agg #[.int .i64 0, .slice none 0 0], .int .i64 6]) (by simp [results, Tryz.results9, go_sem, c0, c1, hz2, World.cell?_alloc_past]) rfl ?_
      rw [hF.out]
      exact ⟨⟨_, rfl, BookIn.none _ _⟩, (by repeat (first | (refine Below.setCell ?_ ?_ _; rotate_left; · (first | omega | (simp; done) | (simp; omega) | fail)) | (refine Below.alloc ?_ ?_ _; rotate_left; · (first | omega | (simp; done) | (simp; omega) | fail)) | refine Below.drew ?_ | exact HB2.out | fail))⟩
    | some b =>
      rw [hl] at hp
      obtain ⟨⟨v, rfl, hv⟩, hb⟩ := hp
      have HV := Lib.hid hv
      obtain ⟨a, n, c, rfl⟩ := hv.shape
      have HR2 : Hid (readF s = if errF b = 0 then (b, 0) else (⟨0, []⟩, 6)) := by show _ = _; rw [HR.out, hl]
      have HP2 := Lib.hid (blk_later hb HP.out)
      have HB2 := Lib.hid (HB.out.trans (hb.mono (by omega)))
      have hz2 := blk_lt HP2.out
      clear hb hl hv
      go_wp2_with fail
      have HA := Lib.hid (HV.out.only (OnlyIn.alloc (fun _ => False) w2 (.cells #[.int .i64 b.signed, .slice a n c] 24)) (fun _ h => h.elim)).at_
      refine (Check_any b _ _ HA.out).mono ?_
      rintro e w3 ⟨rfl, hb⟩
      rw [checkR_eq']
      have HB3 := Lib.hid (Below.trans (show Below w.heap.size w (w2.alloc (.cells #[.int .i64 b.signed, .slice a n c] 24)) from (by repeat (first | (refine Below.setCell ?_ ?_ _; rotate_left; · (first | omega | (simp; done) | (simp; omega) | fail)) | (refine Below.alloc ?_ ?_ _; rotate_left; · (first | omega | (simp; done) | (simp; omega) | fail)) | refine Below.drew ?_ | exact HB2.out | fail))) (hb.mono (by simp; omega)))
      have HP3 := Lib.hid (blk_later hb (show (w2.alloc (.cells #[.int .i64 b.signed, .slice a n c] 24)).heap[w.heap.size]? = _ from (by repeat (first | (refine (heap_setCell_past _ _ _ _ ?_).trans ?_; · (first | omega | (simp; done) | (simp; omega) | fail)) | (refine (heap_alloc_past _ _ _ ?_).trans ?_; · (first | omega | (simp; done) | (simp; omega) | fail)) | exact HP2.out | fail))))
      have hq := blk_later hb (show (w2.alloc (.cells #[.int .i64 b.signed, .slice a n c] 24)).heap[w2.heap.size]? = some (.cells #[.int .i64 b.signed, .slice a n c] 24) from (by repeat (first | exact heap_alloc_at _ _ _ (by (first | omega | (simp; done) | (simp; omega) | fail)) | (refine (heap_alloc_past _ _ _ ?_).trans ?_; · (first | omega | (simp; done) | (simp; omega) | fail)) | fail)))
      have HV3 := Lib.hid ((HV.out.only (OnlyIn.alloc (fun _ => False) w2 (.cells #[.int .i64 b.signed, .slice a n c] 24)) (fun _ h => h.elim)).only (OnlyIn.of_below (X := fun _ => False) hb) (fun _ h => h.elim))
      have c0 := blk_cell HP3.out 0; have c1 := blk_cell HP3.out 1
      have f0 := blk_free HP3.out 0; have f1 := blk_free HP3.out 1
      have q0 := blk_cell hq 0; have q1 := blk_cell hq 1
      have hz3 := blk_lt HP3.out
      have HQ := Lib.hid hq
      clear hb hq
      by_cases he : errF b = 0
      · have hF : Hid (readF s = (b, 0)) := by show _ = _; rw [HR2.out, if_pos he]
        go_wp2_with fail
        refine bodyPost_ret (v := .tuple #[.agg #[.int .i64 b.signed, .slice a n c], .int .i64 0]) (by simp [results, Tryz.results9, go_sem, c0, c1]) rfl ?_
        rw [hF.out]
        refine ⟨⟨_, rfl, ?_⟩, (by repeat (first | (refine Below.setCell ?_ ?_ _; rotate_left; · (first | omega | (simp; done) | (simp; omega) | fail)) | (refine Below.alloc ?_ ?_ _; rotate_left; · (first | omega | (simp; done) | (simp; omega) | fail)) | refine Below.drew ?_ | exact HB3.out | fail))⟩
        exact ((HV3.out.only ((OnlyIn.setCell (X := fun k => k = w.heap.size) w3 ⟨w.heap.size, 0, none⟩ (.int .i64 b.signed) rfl).trans (OnlyIn.setCell _ ⟨w.heap.size, 1, none⟩ (.slice a n c) rfl)) (fun k h => by omega)).mono (by omega))
      · have hne : (errF b != 0) = true := by simp [he]
        have hF : Hid (readF s = (⟨0, []⟩, 6)) := by show _ = _; rw [HR2.out, if_neg he]
        clear he
        go_wp2_with fail
        refine bodyPost_ret (v := .tuple #[.agg #[.int .i64 0, .slice none 0 0], .int .i64 6]) (by simp [results, Tryz.results9, go_sem, c0, c1]) rfl ?_
        rw [hF.out]
        exact ⟨⟨_, rfl, BookIn.none _ _⟩, (by repeat (first | (refine Below.setCell ?_ ?_ _; rotate_left; · (first | omega | (simp; done) | (simp; omega) | fail)) | (refine Below.alloc ?_ ?_ _; rotate_left; · (first | omega | (simp; done) | (simp; omega) | fail)) | refine Below.drew ?_ | exact HB3.out | fail))⟩

end Go.Proofs.YtimdmgkegdlafaaGreatDoor
