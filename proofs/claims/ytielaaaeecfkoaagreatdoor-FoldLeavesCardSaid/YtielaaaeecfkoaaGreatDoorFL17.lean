/- The parts Uz, Od, Oa, Oe, Of, Og, Oc, Ok of the proof, joined. It holds without conditions of its own. -/
import Derived.Test.YtielaaaeecfkoaaGreatDoorFL9
import Derived.Test.YtielaaaeecfkoaaGreatDoorFL16
import Derived.Test.YtielaaaeecfkoaaGreatDoorFL11
import Derived.Test.YtielaaaeecfkoaaGreatDoorFL15
import Derived.Maps.AppendAt
import Derived.Laws.AppendOwnNone
import Derived.Test.YtielaaaeecfkoaaGreatDoorFL5
import Derived.Test.YtielaaaeecfkoaaGreatDoorFL13
import Derived.Test.YtielaaaeecfkoaaGreatDoorFL14
/- Where a leaf lies, in the reference. -/
namespace Go.Proofs.YtielaaaeecfkoaaGreatDoor
set_option linter.unusedSimpArgs false
set_option linter.unusedVariables false
open Go Go.RowKit Go.Sort Go.BigFrame

/-- Does a leaf lie at a place? -/
def lieB (s c r : Nat) (a : Fl) : Bool := a.sheet == s && a.col == c && a.row == r
theorem atF_is (l : List Fl) (s c r : Nat) : atF l s c r = l.findIdx? (lieB s c r) := rfl
/-- The place as a number; below 0: none. -/
def atI (l : List Fl) (s c r : Nat) : Int := match atF l s c r with
  | some i => i
  | none => -1
theorem atI_hit {l : List Fl} {s c r k : Nat} {x : Fl} (h : ∀ i, i < k → ∀ y, l[i]? = some y → lieB s c r y = false) (hx : l[k]? = some x) (hp : lieB s c r x = true) : atI l s c r = k := by
  have hk : k < l.length := (List.getElem?_eq_some_iff.1 hx).1
  have : l.findIdx? (lieB s c r) = some k := by
    rw [List.findIdx?_eq_some_iff_getElem]
    refine ⟨hk, ?_, ?_⟩
    · have := (List.getElem?_eq_some_iff.1 hx).2
      rw [this]; exact hp
    · intro i hi
      have := h i hi l[i] (List.getElem?_eq_getElem (by omega))
      simp [this]
  unfold atI
  rw [atF_is, this]
theorem atI_none {l : List Fl} {s c r : Nat} (h : ∀ i, i < l.length → ∀ y, l[i]? = some y → lieB s c r y = false) : atI l s c r = -1 := by
  have : l.findIdx? (lieB s c r) = none := by
    rw [List.findIdx?_eq_none_iff]
    intro y hy
    obtain ⟨i, hi, rfl⟩ := List.mem_iff_getElem.1 hy
    exact h i hi _ (List.getElem?_eq_getElem hi)
  unfold atI
  rw [atF_is, this]
theorem lie_next {l : List Fl} {s c r k : Nat} {x : Fl} (h : ∀ i, i < k → ∀ y, l[i]? = some y → lieB s c r y = false) (hx : l[k]? = some x) (hp : lieB s c r x = false) : ∀ i, i < k + 1 → ∀ y, l[i]? = some y → lieB s c r y = false := by
  intro i hi y hy
  by_cases e : i < k
  · exact h i e y hy
  · have : i = k := by omega
    subst this
    rw [hx] at hy
    cases hy
    exact hp

set_option maxRecDepth 100000 in
set_option maxHeartbeats 400000 in
theorem refAt_any (ls : List Fl) (v : Value) (g s c r : Nat) (w : World) (hv : LeavesAt w v ls g) (hl : ls.length ≤ 1000) :
    Calls Tryz.prog 55 #[v, .int .i64 s, .int .i64 c, .int .i64 r] w fun e w' => e = .returned (.int .i64 (atI ls s c r)) ∧ w' = w := by
  have HV := Lib.hid hv
  obtain ⟨k7, rest, rfl, -⟩ := hv
  obtain ⟨n, hn⟩ : ∃ n, n = ls.length := ⟨_, rfl⟩
  have HN := Lib.hid hn
  rw [← hn] at HV hl ⊢
  clear hn
  go_enter Tryz.func55, Tryz.ntmps55
  go_wp2_with fail
  go_loopw [9] (fun q wr => ∃ (k : Nat), k ≤ n ∧ q = .int .i64 k ∧ Hid (∀ i, i < k → ∀ y, ls[i]? = some y → lieB s c r y = false) ∧ wr = w) (fun q _ => n - (intOf q).toNat)
  case atStart => exact ⟨0, by omega, rfl, Lib.hid (fun i hi => absurd hi (by omega)), rfl⟩
  case round =>
    obtain ⟨k, hk, rfl, hT, rfl⟩ := hrel
    by_cases hlt : k < n
    · obtain ⟨x, hx⟩ : ∃ x, ls[k]? = some x := ⟨_, List.getElem?_eq_getElem (by have := HN.out; omega)⟩
      obtain ⟨x0, x1, x2, x3, x4⟩ := leaf_cells HV.out hx
      have HX := Lib.hid hx
      clear hx
      by_cases e1 : x.sheet = s
      · have f1 : ((x.sheet : Int) == (s : Int)) = true := by simp [e1]
        by_cases e2 : x.col = c
        · have f2 : ((x.col : Int) == (c : Int)) = true := by simp [e2]
          by_cases e3 : x.row = r
          · have f3 : ((x.row : Int) == (r : Int)) = true := by simp [e3]
            have HD := Lib.hid (atI_hit hT.out HX.out (by unfold lieB; simp [e1, e2, e3]))
            clear e1 e2 e3 hT
            go_wp2_with fail
            go_ret
            exact ⟨by rw [HD.out]; rfl, rfl⟩
          · have f3 : ((x.row : Int) == (r : Int)) = false := by simp; omega
            have HT := Lib.hid (lie_next hT.out HX.out (by unfold lieB; simp [e3]))
            clear e1 e2 e3 hT
            go_wp2_with fail
            go_roundw
            case rel => exact ⟨k + 1, by omega, by go_num, HT.out, trivial⟩
            case measure => simp [intOf]; omega
        · have f2 : ((x.col : Int) == (c : Int)) = false := by simp; omega
          have HT := Lib.hid (lie_next hT.out HX.out (by unfold lieB; simp [e2]))
          clear e1 e2 hT
          go_wp2_with fail
          go_roundw
          case rel => exact ⟨k + 1, by omega, by go_num, HT.out, trivial⟩
          case measure => simp [intOf]; omega
      · have f1 : ((x.sheet : Int) == (s : Int)) = false := by simp; omega
        have HT := Lib.hid (lie_next hT.out HX.out (by unfold lieB; simp [e1]))
        clear e1 hT
        go_wp2_with fail
        go_roundw
        case rel => exact ⟨k + 1, by omega, by go_num, HT.out, trivial⟩
        case measure => simp [intOf]; omega
    · have HD : Hid (atI ls s c r = -1) := Lib.hid (atI_none (fun i hi => hT.out i (by have := HN.out; omega)))
      clear hT
      go_wp2_with fail
      go_ret
      exact ⟨by rw [HD.out]; rfl, rfl⟩
end Go.Proofs.YtielaaaeecfkoaaGreatDoor

/- The reference's leaves of a gathering: what lies in memory while they are gathered. -/
namespace Go.Proofs.YtielaaaeecfkoaaGreatDoor
set_option linter.unusedSimpArgs false
set_option linter.unusedVariables false
open Go Go.RowKit Go.Sort Go.BigFrame

theorem elemFl : ∃ i, Tryz.prog.info? 57 = some i ∧ i.zero = some (.agg #[.int .i64 0, .int .i64 0, .int .i64 0, .bool false, .bool false]) ∧ i.size = 5 ∧ i.bytes = 32 := elemOf (by kernel_rfl)
theorem undFls : Tryz.prog.underlying 42 = some (.slice 57) := by kernel_rfl
def flCells (ls : List Fl) : List Value := ls.flatMap flV
theorem flCells_append (a b : List Fl) : flCells (a ++ b) = flCells a ++ flCells b := by unfold flCells; rw [List.flatMap_append]
theorem flCells_len (a : List Fl) : (flCells a).length = a.length * 5 := by
  unfold flCells
  induction a with
  | nil => rfl
  | cons x xs ih => simp only [List.flatMap_cons, List.length_append, ih, List.length_cons, List.length_nil]; omega
theorem flCells_one {a : List Fl} : ∀ u ∈ flCells a, u.oneCell' = true := by
  intro u hu
  unfold flCells at hu
  obtain ⟨x, -, hx⟩ := List.mem_flatMap.1 hu
  simp at hx
  rcases hx with rfl | rfl | rfl | rfl | rfl <;> rfl
theorem flCells_take (a : List Fl) (k : Nat) (hk : k ≤ a.length) : (flCells a).take (k * 5) = flCells (a.take k) := by
  have h : flCells a = flCells (a.take k) ++ flCells (a.drop k) := by rw [← flCells_append, List.take_append_drop]
  have hl : (flCells (a.take k)).length = k * 5 := by rw [flCells_len, List.length_take]; omega
  rw [h, ← hl, List.take_left']
  rfl
theorem flCells_drop (a : List Fl) (k : Nat) (hk : k ≤ a.length) : (flCells a).drop (k * 5) = flCells (a.drop k) := by
  have h : flCells a = flCells (a.take k) ++ flCells (a.drop k) := by rw [← flCells_append, List.take_append_drop]
  have hl : (flCells (a.take k)).length = k * 5 := by rw [flCells_len, List.length_take]; omega
  rw [h, ← hl, List.drop_left']
  rfl
/-- A row of leaves that the call owns is one of its own. -/
theorem leaves_of_row {W : World} {base : Nat} {v : Value} {ls : List Fl} (h : W.ownsRow base 57 5 v ls.length (flCells ls)) (hne : 1 ≤ ls.length) : ∃ g, LeavesAt W v ls g ∧ base ≤ g := by
  rcases h.2 with ⟨-, h0⟩ | ⟨g, cap, cur, rfl, hb, hg, h1, h2, h3, h4⟩
  · omega
  · refine ⟨g, ⟨cap - ls.length, cur.toList.drop (ls.length * 5), ?_, ?_, ?_⟩, hb⟩
    · congr 1; omega
    · rw [hg]
      have e : ls.flatMap flV ++ cur.toList.drop (ls.length * 5) = cur.toList := by
        have : ls.flatMap flV = cur.toList.take (ls.length * 5) := h4.symm
        rw [this, List.take_append_drop]
      rw [e]
    · rw [List.length_drop, Array.length_toList, h3, Nat.sub_mul]

/-- What is gathered at the beginning and at the end, after so many sheets. -/
def firstR (f : Fds) (L : List Ln) (n : Nat) : List Fl := (List.range n).flatMap fun s => (ownR f L s).take ((ownR f L s).length / 2)
def secondR (f : Fds) (L : List Ln) : Nat → List Fl
  | 0 => []
  | s + 1 => (ownR f L s).drop ((ownR f L s).length / 2) ++ secondR f L s
theorem firstR_succ (f : Fds) (L : List Ln) (s : Nat) : firstR f L (s + 1) = firstR f L s ++ (ownR f L s).take ((ownR f L s).length / 2) := by simp [firstR, List.range_succ]
theorem ownR_len (f : Fds) (L : List Ln) (s : Nat) : (ownR f L s).length = L.length := by simp [ownR]
theorem allR_is (f : Fds) (n : Nat) (half : Bool) : allR f n half = firstR f (pileR f half) n ++ secondR f (pileR f half) n := by
  unfold allR
  have key : ∀ n, (List.range n).foldl (fun (st : List Fl × List Fl) s => (st.1 ++ (ownR f (pileR f half) s).take ((ownR f (pileR f half) s).length / 2), (ownR f (pileR f half) s).drop ((ownR f (pileR f half) s).length / 2) ++ st.2)) ([], []) = (firstR f (pileR f half) n, secondR f (pileR f half) n) := by
    intro n
    induction n with
    | zero => rfl
    | succ n ih => rw [List.range_succ, List.foldl_append, ih, firstR_succ]; rfl
  simp only [key]
theorem firstR_len (f : Fds) (L : List Ln) (n : Nat) : (firstR f L n).length = n * (L.length / 2) := by
  induction n with
  | zero => simp [firstR]
  | succ n ih => rw [firstR_succ, List.length_append, ih, List.length_take, ownR_len, Nat.succ_mul]; omega
theorem secondR_len (f : Fds) (L : List Ln) (n : Nat) : (secondR f L n).length = n * (L.length - L.length / 2) := by
  induction n with
  | zero => simp [secondR]
  | succ n ih => rw [secondR, List.length_append, ih, List.length_drop, ownR_len, Nat.succ_mul]; omega
theorem ownR_next {f : Fds} {L : List Ln} {s i : Nat} {x : Ln} (h : L[i]? = some x) : ownR f (L.take (i + 1)) s = ownR f (L.take i) s ++ [⟨s, x.col, x.row, (x.x + x.y) % 2 == 1, (if lastF f then x.y else x.x) % 2 == 1⟩] := by
  unfold ownR
  rw [List.take_add_one, h]
  simp
theorem pile_len : ∀ f ∈ allFolds, 2 ≤ (pileR f false).length ∧ (pileR f false).length ≤ 16 := by decide +kernel
theorem pile_lenh : ∀ f ∈ allFolds, 2 ≤ f.length → 2 ≤ (pileR f true).length ∧ (pileR f true).length ≤ 16 := by decide +kernel
theorem pile_small : ∀ f ∈ allFolds, (pileR f false).all (fun l => decide (l.col < 100) && decide (l.row < 100) && decide (l.x < 100) && decide (l.y < 100)) = true := by decide +kernel
theorem pile_smallh : ∀ f ∈ allFolds, 2 ≤ f.length → (pileR f true).all (fun l => decide (l.col < 100) && decide (l.row < 100) && decide (l.x < 100) && decide (l.y < 100)) = true := by decide +kernel
/-- The pile's leaves in memory. -/
theorem flat_atn : ∀ (ls : List Ln) (rest : List Value) (i : Nat) (x : Ln), ls[i]? = some x → ∀ c, c < 4 → (ls.flatMap lnV ++ rest)[i * 4 + c]? = (lnV x)[c]?
  | [], _, _, _, h, _, _ => by simp at h
  | y :: ys, rest, 0, x, h, c, hc => by
    obtain rfl : y = x := by simpa using h
    rw [List.flatMap_cons, List.append_assoc, List.getElem?_append_left (by simp; omega), Nat.zero_mul, Nat.zero_add]
  | y :: ys, rest, i + 1, x, h, c, hc => by
    rw [List.flatMap_cons, List.append_assoc, List.getElem?_append_right (by simp; omega)]
    have := flat_atn ys rest i x (by simpa using h) c hc
    rw [← this]
    congr 1
    simp
    omega
theorem ln_cells {w : World} {v : Value} {ls : List Ln} {g i : Nat} {x : Ln} (h : LnsAt w v ls g) (hi : ls[i]? = some x) :
    w.cell? ⟨g, i * 4, none⟩ = some (.int .i64 x.col) ∧ w.cell? ⟨g, i * 4 + 1, none⟩ = some (.int .i64 x.row) ∧ w.cell? ⟨g, i * 4 + 2, none⟩ = some (.int .i64 x.x) ∧ w.cell? ⟨g, i * 4 + 3, none⟩ = some (.int .i64 x.y) := by
  obtain ⟨k, rest, -, hg, -⟩ := h
  have key : ∀ c, c < 4 → w.cell? ⟨g, i * 4 + c, none⟩ = (lnV x)[c]? := fun c hc => by
    rw [blk_cell hg, List.getElem?_toArray]
    exact flat_atn ls rest i x hi c hc
  exact ⟨key 0 (by omega), key 1 (by omega), key 2 (by omega), key 3 (by omega)⟩
theorem LnsAt.later {w w' : World} {v : Value} {ls : List Ln} {g : Nat} (h : LnsAt w v ls g) (hb : Below w.heap.size w w') : LnsAt w' v ls g := by
  obtain ⟨k, rest, h1, h2, h3⟩ := h
  exact ⟨k, rest, h1, blk_later hb h2, h3⟩

/-- What lies in memory behind a sheet: the two rows, apart from each other; the pile; the way of making. -/
structure AlSt (w0 W : World) (lv : Value) (L : List Ln) (g B : Nat) (mc : Array Value) (fv sv : Value) (F S : List Fl) : Prop where
  frow : W.ownsRow B 57 5 fv F.length (flCells F)
  srow : W.ownsRow B 57 5 sv S.length (flCells S)
  apart : ∀ k, fv.ownBlock = some k → sv.ownBlock ≠ some k
  pile : LnsAt W lv L g
  box : W.heap[w0.heap.size + 1]? = some (.cells mc 38 (0, 0))
  bel : Below w0.heap.size w0 W
  gB : g < B
  bB : w0.heap.size + 1 < B
theorem AlSt.later {w0 W W' : World} {lv : Value} {L : List Ln} {g B : Nat} {mc : Array Value} {fv sv : Value} {F S : List Fl} (h : AlSt w0 W lv L g B mc fv sv F S) (hb : Below W.heap.size W W') : AlSt w0 W' lv L g B mc fv sv F S :=
  ⟨row_later h.frow hb, row_later h.srow hb, h.apart, h.pile.later hb, blk_later hb h.box, h.bel.trans (hb.mono h.bel.size), h.gB, h.bB⟩
/-- The first row grows. -/
theorem AlSt.first {w0 W W' : World} {lv : Value} {L : List Ln} {g B : Nat} {mc : Array Value} {fv sv v' : Value} {F S X : List Fl} {n : Nat} (h : AlSt w0 W lv L g B mc fv sv F S)
    (hr : W'.ownsRow B 57 5 v' n (flCells F ++ flCells X)) (hn : n = F.length + X.length) (hg : W.grownBy W' fv.ownBlock) (ho : v'.ownBlock = fv.ownBlock ∨ v'.ownBlock = some W.heap.size) : AlSt w0 W' lv L g B mc v' sv (F ++ X) S := by
  have hbl : Below w0.heap.size W W' := ((Below.refl _ W).mono h.bel.size).grown hg h.bel.size (fun k hk => by
    have := (h.frow.lt k hk).1
    have := h.bB
    omega)
  obtain ⟨k7, rest7, e1, e2, e3⟩ := h.pile
  refine ⟨?_, h.srow.kept hg ?_, ?_, ⟨k7, rest7, e1, ?_, e3⟩, ?_, h.bel.trans hbl, h.gB, h.bB⟩
  · rw [flCells_append, List.length_append, ← hn]; exact hr
  · cases hs : sv.ownBlock with
    | none => exact Or.inl rfl
    | some k => exact Or.inr fun e => h.apart k e.symm hs
  · intro k hk hs
    rcases ho with ho | ho
    · exact h.apart k (ho ▸ hk) hs
    · rw [ho] at hk
      cases hk
      have := (h.srow.lt _ hs).2
      omega
  · exact (hg.block _ (blk_lt e2) (fun e => by have := (h.frow.lt _ e.symm).1; have := h.gB; omega)).trans e2
  · exact (hg.block _ (blk_lt h.box) (fun e => by have := (h.frow.lt _ e.symm).1; have := h.bB; omega)).trans h.box
/-- The second row is another one, of its own, made behind all that was there. -/
theorem AlSt.second {w0 W W' : World} {lv : Value} {L : List Ln} {g B : Nat} {mc : Array Value} {fv sv v' : Value} {F S X : List Fl} (h : AlSt w0 W lv L g B mc fv sv F S)
    (hr : W'.ownsRow W.heap.size 57 5 v' X.length (flCells X)) (hB : B ≤ W.heap.size) (hb : Below W.heap.size W W') : AlSt w0 W' lv L g B mc fv v' F X := by
  have h' := h.later hb
  refine ⟨h'.frow, row_mono hr hB, ?_, h'.pile, h'.box, h'.bel, h.gB, h.bB⟩
  intro k hk hs
  have h1 := (hr.lt _ hs).1
  have h2 := (h.frow.lt _ hk).2
  omega
theorem row_formK {W : World} {base : Nat} {v : Value} {e : TypeId} {s n : Nat} {xs : List Value} (h : W.ownsRow base e s v n xs) (hn : 0 < n) : ∃ g cap, v = .slice (some ⟨g, 0, none⟩) n cap ∧ base ≤ g ∧ g < W.heap.size ∧ n ≤ cap ∧ cap ≤ maxLen := by
  rcases h.2 with ⟨-, h0⟩ | ⟨g, cap, cur, rfl, hb, hg, h1, h2, -⟩
  · omega
  · exact ⟨g, cap, rfl, hb, (Array.getElem?_eq_some_iff.1 hg).1, h1, h2⟩
/-- Cells of a row from a place on. -/
theorem row_from {W : World} {base g n cap : Nat} {e : TypeId} {xs : List Value} (h : W.ownsRow base e 5 (.slice (some ⟨g, 0, none⟩) n cap) n xs) (k : Nat) : ∀ j u, (xs.drop (k * 5))[j]? = some u → W.cell? ((⟨g, k * 5, none⟩ : Addr).add j) = some u := by
  intro j u hju
  rw [List.getElem?_drop] at hju
  have := h.cells (g := g) rfl (k * 5 + j) u hju
  rw [add_offi] at this
  have e : (⟨g, k * 5, none⟩ : Addr).add j = ⟨g, k * 5 + j, none⟩ := by unfold Addr.add; split <;> simp_all
  rw [e]
  exact this
end Go.Proofs.YtielaaaeecfkoaaGreatDoor

/- The reference: the error of any press and way of making; Leaves, if there is one. -/
namespace Go.Proofs.YtielaaaeecfkoaaGreatDoor
set_option linter.unusedSimpArgs false
set_option linter.unusedVariables false
open Go Go.RowKit Go.Sort Go.BigFrame

set_option maxRecDepth 100000 in
set_option maxHeartbeats 1000000 in
theorem refMake3_any (p : Prs) (m : Mkw) (vp : Value) (w : World) (hp : PrsAt w.heap.size w vp p) :
    Calls Tryz.prog 51 #[vp, mkwV m] w fun e w' => e = .returned (.int .i64 (wayErr p m)) ∧ Below w.heap.size w w' := by
  unfold wayErr
  by_cases h : errP p = 0
  · rw [if_pos h]
    exact refMake2_any p m vp w hp h
  · rw [if_neg h]
    have HP := Lib.hid hp
    have HE := Lib.hid h
    obtain ⟨fv, pv, rfl, ⟨a, cap, rfl, -⟩, ⟨a2, cap2, rfl, -⟩, -⟩ := hp
    obtain ⟨n1, hn1⟩ : ∃ n, n = p.fmts.length := ⟨_, rfl⟩
    obtain ⟨n2, hn2⟩ : ∃ n, n = p.pprs.length := ⟨_, rfl⟩
    rw [← hn1, ← hn2] at HP ⊢
    obtain ⟨z, hz⟩ : ∃ z, z = errP p := ⟨_, rfl⟩
    rw [← hz]
    have HZ := Lib.hid hz
    clear hn1 hn2 h hz
    obtain ⟨fm, pp, sh, hf⟩ := m
    go_enter Tryz.func51, Tryz.ntmps51
    go_wp2_with fail
    have hp0 : Below w.heap.size w ((w.alloc (.cells #[.slice a n1 cap, .slice a2 n2 cap2, .int .i64 p.trim, .int .i64 p.sheets] 25)).alloc (.cells #[.int .i64 fm, .int .i64 pp, .int .i64 sh, .bool hf] 38)) := by exact (by repeat (first | exact Below.refl _ _ | assumption | (refine Below.alloc ?_ ?_ _; rotate_left; · (first | omega | (simp; done) | (simp; omega) | fail)) | (refine Below.setCell ?_ ?_ _; rotate_left; · (first | omega | (simp; done) | (simp; omega) | fail)) | refine Below.drew ?_ | fail))
    refine (refCheck2_any p _ _ (HP.out.later hp0)).mono ?_
    rintro e w2 ⟨rfl, hb⟩
    obtain ⟨⟨y1, y2, y3⟩, hy⟩ : ∃ y, y = checkP p := ⟨_, rfl⟩
    rw [← hy]
    have hy3 : y3 = z := by rw [HZ.out]; unfold errP; rw [← hy]
    have hz0 : (z != 0) = true := by rw [HZ.out]; simpa using HE.out
    subst hy3
    have HB := Lib.hid (hp0.trans (hb.mono hp0.size))
    clear hb hp0 hy
    go_wp2_with fail
    go_ret
    exact ⟨rfl, HB.out⟩
set_option maxRecDepth 100000 in
set_option maxHeartbeats 1000000 in
theorem refLeaves_err (p : Prs) (m : Mkw) (vp : Value) (w : World) (hp : PrsAt w.heap.size w vp p) (he : wayErr p m ≠ 0) :
    Calls Tryz.prog 15 #[vp, mkwV m] w fun e w' => e = .returned (.tuple #[.slice none 0 0, .int .i64 (wayErr p m)]) ∧ Below w.heap.size w w' := by
  have HP := Lib.hid hp
  obtain ⟨fv, pv, rfl, ⟨a, cap, rfl, -⟩, ⟨a2, cap2, rfl, -⟩, -⟩ := hp
  obtain ⟨n1, hn1⟩ : ∃ n, n = p.fmts.length := ⟨_, rfl⟩
  obtain ⟨n2, hn2⟩ : ∃ n, n = p.pprs.length := ⟨_, rfl⟩
  rw [← hn1, ← hn2] at HP ⊢
  obtain ⟨z, hz⟩ : ∃ z, z = wayErr p m := ⟨_, rfl⟩
  have hz0 : (z != 0) = true := by rw [hz]; simpa using he
  rw [← hz]
  have HZ := Lib.hid hz
  clear hz hn1 hn2 he
  go_enter Tryz.func15, Tryz.ntmps15
  go_wp2_with fail
  refine (refMake3_any p m _ _ (HP.out.later (by exact (by repeat (first | exact Below.refl _ _ | assumption | (refine Below.alloc ?_ ?_ _; rotate_left; · (first | omega | (simp; done) | (simp; omega) | fail)) | (refine Below.setCell ?_ ?_ _; rotate_left; · (first | omega | (simp; done) | (simp; omega) | fail)) | refine Below.drew ?_ | fail))))).mono ?_
  rintro e w2 ⟨rfl, hb⟩
  rw [← HZ.out]
  have hb0 : Below w.heap.size w w2 := Below.trans (by exact (by repeat (first | exact Below.refl _ _ | assumption | (refine Below.alloc ?_ ?_ _; rotate_left; · (first | omega | (simp; done) | (simp; omega) | fail)) | (refine Below.setCell ?_ ?_ _; rotate_left; · (first | omega | (simp; done) | (simp; omega) | fail)) | refine Below.drew ?_ | fail))) (hb.mono (by simp; try omega))
  clear hb
  go_wp2_with fail
  go_ret2
  exact ⟨rfl, hb0⟩
end Go.Proofs.YtielaaaeecfkoaaGreatDoor

/- The reference: all leaves of a gathering that is made without an error. -/
namespace Go.Proofs.YtielaaaeecfkoaaGreatDoor
set_option linter.unusedSimpArgs false
set_option linter.unusedVariables false
open Go Go.RowKit Go.Sort Go.BigFrame

theorem bytesF_last {D : Fds} (h : 1 ≤ D.length) : ∃ k, (bytesF D).length = k + 1 ∧ ∃ c : UInt8, ((c.toNat : Int) == 120) = lastF D ∧ ∀ h : k < (⟨(bytesF D).toArray⟩ : ByteArray).size, (⟨(bytesF D).toArray⟩ : ByteArray)[k]'h = c := by
  have hne : D ≠ [] := fun e => by rw [e] at h; simp at h
  refine ⟨D.length - 1, by unfold bytesF; simp; omega, if lastF D then 120 else 121, by cases lastF D <;> rfl, ?_⟩
  intro h'
  have h0 : D.length - 1 < (bytesF D).length := by unfold bytesF; simp; omega
  have hg : (⟨(bytesF D).toArray⟩ : ByteArray)[D.length - 1]'h' = (bytesF D)[D.length - 1]'h0 := rfl
  rw [hg]
  have hm : (bytesF D)[D.length - 1]? = some (if lastF D then 120 else 121) := by
    unfold bytesF lastF
    rw [List.getElem?_map, List.getLastD_eq_getLast?, List.getLast?_eq_getElem?]
    rw [List.getElem?_eq_getElem (by omega)]
    simp
  rw [List.getElem?_eq_getElem h0] at hm
  exact Option.some.inj hm

set_option maxRecDepth 100000 in
set_option maxHeartbeats 4000000 in
theorem refAll2_any (p : Prs) (m : Mkw) (f : Fmt) (vp : Value) (w : World) (hp : PrsAt w.heap.size w vp p) (he : errP p = 0) (hm : mkwErr p m = 0) (hf : p.fmts[m.fmt.toNat]? = some f) :
    Calls Tryz.prog 52 #[vp, mkwV m] w fun e w' => (∃ v' g, e = .returned v' ∧ LeavesAt w' v' (leavesW m f) g ∧ w.heap.size ≤ g) ∧ Below w.heap.size w w' := by
  have FN := Lib.hid (fine_of he hm hf)
  obtain ⟨hfm0, hfm1, -, -⟩ := fine_at he hm
  obtain ⟨fv, pv, rfl, ⟨a, cap, rfl, hfc⟩, ⟨a2, cap2, rfl, -⟩, -⟩ := hp
  obtain ⟨n1, hn1⟩ : ∃ n, n = p.fmts.length := ⟨_, rfl⟩
  obtain ⟨n2, hn2⟩ : ∃ n, n = p.pprs.length := ⟨_, rfl⟩
  obtain ⟨b', off, rfl, hb', hc⟩ := hfc (fun h => by rw [h] at hf; simp at hf)
  have q1 : w.cell? ⟨b', off + m.fmt.toNat * 2 + 1, none⟩ = some (S f.folds) := by have := hc _ f hf 1 _ rfl; simpa using this
  rw [← hn1] at hfm1
  rw [← hn1, ← hn2]
  have hs1 := FN.out.sh1
  have hs4 := FN.out.sh4
  have hl1 := FN.out.len1
  have hl4 := FN.out.len4
  obtain ⟨D, hD⟩ : ∃ D, D = fdsB f.folds := ⟨_, rfl⟩
  have hDl : D.length = f.folds.length := by rw [hD]; unfold fdsB; simp
  have hback : bytesF D = f.folds := by rw [hD]; exact FN.out.back
  have hhalf := FN.out.half
  have HL : Hid (leavesW m f = allR D m.sheets.toNat m.half) := Lib.hid (by
    unfold leavesW
    rw [← hD]
    exact leaves_is (by omega) (by omega) hs1 hs4 (fun h => by have := hhalf h; omega))
  have hpl := fun W => pile_any (f := D) (by omega) (by omega) m.half (fun h => by have := hhalf h; omega) W
  have hqq : 2 ≤ (pileR D m.half).length ∧ (pileR D m.half).length ≤ 16 := by
    have hDm := allFolds_mem (f := D) (by omega) (by omega)
    cases hh : m.half with
    | false => exact pile_len D hDm
    | true => exact pile_lenh D hDm (by have := hhalf hh; omega)
  have hsm : ∀ l ∈ pileR D m.half, l.col < 100 ∧ l.row < 100 ∧ l.x < 100 ∧ l.y < 100 := by
    have hDm := allFolds_mem (f := D) (by omega) (by omega)
    have h1 : (pileR D m.half).all (fun l => decide (l.col < 100) && decide (l.row < 100) && decide (l.x < 100) && decide (l.y < 100)) = true := by
      cases hh : m.half with
      | false => exact pile_small D hDm
      | true => exact pile_smallh D hDm (by have := hhalf hh; omega)
    intro l hl
    have h2 := List.all_eq_true.1 h1 l hl
    simp only [Bool.and_eq_true, decide_eq_true_eq] at h2
    exact ⟨h2.1.1.1, h2.1.1.2, h2.1.2, h2.2⟩
  obtain ⟨kl, hkl, cl, hcl, hlast⟩ := bytesF_last (D := D) (by omega)
  obtain ⟨fm, pp, sh, hf7⟩ := m
  obtain ⟨fi, hfi⟩ : ∃ fi : Nat, fm = fi := ⟨fm.toNat, by dsimp only at hfm0; omega⟩
  obtain ⟨sn, hsn⟩ : ∃ sn : Nat, sh = sn := ⟨sh.toNat, by dsimp only at hs1; omega⟩
  subst hfi hsn
  dsimp only [Int.toNat_natCast] at *
  have HPL := Lib.hid hpl
  have HSM := Lib.hid hsm
  have hzs : (⟨(bytesF D).toArray⟩ : ByteArray).size = kl + 1 := by rw [size_bytes, hkl]
  have hkl4 : kl < 4 := by have : (bytesF D).length = D.length := (by unfold bytesF; simp); omega
  rw [← hback] at q1
  obtain ⟨L, hL⟩ : ∃ L, L = pileR D hf7 := ⟨_, rfl⟩
  rw [← hL] at HPL HSM hqq
  have HLL := Lib.hid hL
  obtain ⟨lb, hlb⟩ : ∃ lb, lb = lastF D := ⟨_, rfl⟩
  rw [← hlb] at hcl
  have HLB := Lib.hid hlb
  obtain ⟨bs, hbs⟩ : ∃ bs, bs = bytesF D := ⟨_, rfl⟩
  rw [← hbs] at q1 hzs hlast HPL
  clear hpl hsm hDl hD hback hhalf FN hc hkl hl1 hl4 hL hlb hf he hm hfm0 hn1 hn2 hbs
  go_enter Tryz.func52, Tryz.ntmps52
  go_wp2_with fail
  refine (HPL.out _).mono ?_
  rintro e w2 ⟨lv, g, rfl, hl, hg, hb⟩
  have hb0 : Below w.heap.size w w2 := Below.trans (by exact (by repeat (first | exact Below.refl _ _ | assumption | (refine Below.alloc ?_ ?_ _; rotate_left; · (first | omega | (simp; done) | (simp; omega) | fail)) | (refine Below.setCell ?_ ?_ _; rotate_left; · (first | omega | (simp; done) | (simp; omega) | fail)) | refine Below.drew ?_ | fail))) (hb.mono (by simp; try omega))
  have bx : w2.heap[w.heap.size + 1]? = some (.cells #[.int .i64 fi, .int .i64 pp, .int .i64 sn, .bool hf7] 38 (0, 0)) := blk_later hb (by exact (by repeat (first | exact heap_alloc_at _ _ _ (by (first | omega | (simp; done) | (simp; omega) | (simp at *; omega) | fail)) | assumption | rw [heap_alloc_past _ _ _ (by (first | omega | (simp; done) | (simp; omega) | (simp at *; omega) | fail))] | rw [heap_setCell_past _ _ _ _ (by (first | omega | (simp; done) | (simp; omega) | (simp at *; omega) | fail))] | fail)))
  have hgl : g < w2.heap.size := by obtain ⟨k7, rest7, e1, e2, e3⟩ := hl; exact blk_lt e2
  have HS : Hid (AlSt w w2 lv L g w2.heap.size #[.int .i64 fi, .int .i64 pp, .int .i64 sn, .bool hf7] (.slice none 0 0) (.slice none 0 0) (firstR D L 0) (secondR D L 0)) := Lib.hid ⟨World.ownsRow_nil _ _ _ _, World.ownsRow_nil _ _ _ _, (fun k h => by cases h), hl, bx, hb0, hgl, blk_lt bx⟩
  obtain ⟨kq, restq, hlv, -⟩ := hl
  obtain ⟨q, hq⟩ : ∃ q, q = L.length := ⟨_, rfl⟩
  rw [← hq] at hlv hqq
  have HQ := Lib.hid hq
  subst hlv
  obtain ⟨hq2, hq16⟩ := hqq
  obtain ⟨ei, hi1, hi2, hi3, hi4⟩ := elemFl
  have HI := Lib.hid (And.intro hi1 (And.intro hi2 (And.intro hi3 hi4)))
  have HG := Lib.hid hg
  clear hi1 hi2 hi3 hi4 hq hb hb0 bx HPL hb' q1 hg
  go_wp2_with fail
  go_loopw [8, 9, 10] (fun fv sv i wr => ∃ (s : Nat), s ≤ sn ∧ i = .int .i64 s ∧ Hid (s = 0 → sv = .slice none 0 0) ∧ Hid (AlSt w wr (.slice (some ⟨g, 0, none⟩) q (q + kq)) L g w2.heap.size #[.int .i64 fi, .int .i64 pp, .int .i64 sn, .bool hf7] fv sv (firstR D L s) (secondR D L s)) ∧ Hid (w2.heap.size ≤ wr.heap.size)) (fun _ _ i _ => sn - (intOf i).toNat)
  case atStart => exact ⟨0, by omega, rfl, Lib.hid (fun _ => rfl), HS, Lib.hid (Nat.le_refl _)⟩
  case round =>
    clear HS
    obtain ⟨s, hs, rfl, HV0, HS, HZ⟩ := hrel
    have c0 := blk_cell HS.out.box 0
    have c1 := blk_cell HS.out.box 1
    have c2 := blk_cell HS.out.box 2
    have c3 := blk_cell HS.out.box 3
    by_cases hlt : s < sn
    · go_wp2_with fail
      clear c0 c1 c2 c3
      obtain ⟨w3, hw3⟩ : ∃ w3, w3 = wr := ⟨_, rfl⟩
      subst hw3
      go_loopw [11, 12] (fun ov i wi => ∃ (k : Nat), k ≤ q ∧ i = .int .i64 k ∧ Hid (wi.ownsRow w3.heap.size 57 5 ov k (flCells (ownR D (L.take k) s))) ∧ Hid (Below w3.heap.size w3 wi)) (fun _ i _ => q - (intOf i).toNat)
      case atStart => exact ⟨0, by omega, rfl, World.ownsRow_nil _ _ _ _, Lib.hid (Below.refl _ _)⟩
      case round =>
        obtain ⟨k, hk, rfl, HO, HB⟩ := hrel
        by_cases hkq : k < q
        · obtain ⟨x, hx⟩ : ∃ x, L[k]? = some x := ⟨_, List.getElem?_eq_getElem (by have := HQ.out; omega)⟩
          obtain ⟨x0, x1, x2, x3⟩ := ln_cells (HS.out.pile.later HB.out) hx
          have HX := Lib.hid hx
          obtain ⟨xs1, xs2, xs3, xs4⟩ := HSM.out x (List.mem_of_getElem? hx)
          have hxs : (ownR D (L.take k) s).length = k := by rw [ownR_len, List.length_take]; have := HQ.out; omega
          have HXS := Lib.hid hxs
          have HNX := Lib.hid (ownR_next (f := D) (s := s) hx)
          obtain ⟨IB, hIB⟩ : ∃ b : Bool, (((x.x : Int) + (x.y : Int)) % 2 == 1) = b := ⟨_, rfl⟩
          clear hx hxs
          cases lb with
          | true =>
            obtain ⟨TB, hTB⟩ : ∃ b : Bool, ((x.y : Int) % 2 == 1) = b := ⟨_, rfl⟩
            have HNX : Hid (ownR D (L.take (k + 1)) s = ownR D (L.take k) s ++ [(⟨s, x.col, x.row, IB, TB⟩ : Fl)]) := Lib.hid (by
              have e1 : ((x.x + x.y) % 2 == 1) = IB := by rw [← hIB, Bool.eq_iff_iff]; simp; omega
              have e2 : ((if lastF D then x.y else x.x) % 2 == 1) = TB := by rw [← hTB, ← HLB.out, Bool.eq_iff_iff]; simp; omega
              rw [HNX.out, e1, e2])
            go_upto_region 15 with fail
            have p0 := cell_regrown x0
            have p1 := cell_regrown x1
            have p2 := cell_regrown x2
            have p3 := cell_regrown x3
            clear x0 x1 x2 x3
            refine wp_region_below_tail 1 29 (by kernel_rfl) (by kernel_rfl) fun R hR => ?_; simp only [List.take_succ_cons, List.take_zero, List.drop_succ_cons, List.drop_zero, leadA, leadV, Act.put, Act.eval, List.setIfInBounds_toArray, List.set_cons_zero, List.set_cons_succ, Array.getD_eq_getD_getElem?, List.getElem?_toArray, List.getElem?_cons_zero, List.getElem?_cons_succ, Option.getD_some]; (repeat (go_big_quiet_step (fail))); refine wpQuiet_nil ?_; rintro w6 ⟨⟨d6, os6⟩, rfl⟩; have hR := Lib.hid hR
            have HB6 := Lib.hid (HB.out.trans ((below_regrown wr d6 os6).mono HB.out.size))
            have HR6 := Lib.hid (row_later HO.out (below_regrown wr d6 os6))
            clear p0 p1 p2 p3 HO HB
            dsimp only
            generalize grow (redrawn wr d6) os6 = w6 at *
            obtain ⟨hi1, hi2, hi3, hi4⟩ := HI.out
            have hz6 := HB6.out.size
            have hxs := HXS.out
            go_wp2_with (at_builtin; refine wpList_append_own _ rfl _ _ 42 rfl w3.heap.size 57 ei _ 5 32 undFls hi1 hi2 hi3 hi4 rfl (by decide) u11 k (flCells (ownR D (L.take k) s)) rfl (HR6.out.alloc _) ⟨w6.heap.size, 0, none⟩ 1 1 [.int .i64 s, .int .i64 x.col, .int .i64 x.row, .bool IB, .bool TB] rfl rfl ?c1 ?c2 ?c3 ?c4 ?c5 ?c6)
            case c1 => exact cells_new _ _ _
            case c2 => simp [Value.oneCell']
            case c3 => simp only [maxLen]; omega
            case c4 => omega
            case c5 => simp; omega
            case c6 =>
              rintro v' w7 hown hgrow -
              have HB8 := Lib.hid (HB6.out.trans ((((Below.refl _ w6).alloc (Nat.le_refl _) (.cells #[.int .i64 s, .int .i64 x.col, .int .i64 x.row, .bool IB, .bool TB] 57)).mono hz6).trans (below_row (HR6.out.alloc _) (by simp; omega) hgrow)))
              have HO8 : Hid (w7.ownsRow w3.heap.size 57 5 v' (k + 1) (flCells (ownR D (L.take (k + 1)) s))) := Lib.hid (by
                rw [HNX.out, flCells_append]
                exact hown)
              clear hgrow hown hi1 hi2 hi3 hi4
              go_wp2_with fail
              go_roundw
              case rel => exact ⟨k + 1, by omega, by go_num, HO8, HB8⟩
              case measure => simp [intOf]; omega
          | false =>
            obtain ⟨TB, hTB⟩ : ∃ b : Bool, ((x.x : Int) % 2 == 1) = b := ⟨_, rfl⟩
            have HNX : Hid (ownR D (L.take (k + 1)) s = ownR D (L.take k) s ++ [(⟨s, x.col, x.row, IB, TB⟩ : Fl)]) := Lib.hid (by
              have e1 : ((x.x + x.y) % 2 == 1) = IB := by rw [← hIB, Bool.eq_iff_iff]; simp; omega
              have e2 : ((if lastF D then x.y else x.x) % 2 == 1) = TB := by rw [← hTB, ← HLB.out, Bool.eq_iff_iff]; simp; omega
              rw [HNX.out, e1, e2])
            go_upto_region 15 with fail
            have p0 := cell_regrown x0
            have p1 := cell_regrown x1
            have p2 := cell_regrown x2
            have p3 := cell_regrown x3
            clear x0 x1 x2 x3
            refine wp_region_below_tail 1 29 (by kernel_rfl) (by kernel_rfl) fun R hR => ?_; simp only [List.take_succ_cons, List.take_zero, List.drop_succ_cons, List.drop_zero, leadA, leadV, Act.put, Act.eval, List.setIfInBounds_toArray, List.set_cons_zero, List.set_cons_succ, Array.getD_eq_getD_getElem?, List.getElem?_toArray, List.getElem?_cons_zero, List.getElem?_cons_succ, Option.getD_some]; (repeat (go_big_quiet_step (fail))); refine wpQuiet_nil ?_; rintro w6 ⟨⟨d6, os6⟩, rfl⟩; have hR := Lib.hid hR
            have HB6 := Lib.hid (HB.out.trans ((below_regrown wr d6 os6).mono HB.out.size))
            have HR6 := Lib.hid (row_later HO.out (below_regrown wr d6 os6))
            clear p0 p1 p2 p3 HO HB
            dsimp only
            generalize grow (redrawn wr d6) os6 = w6 at *
            obtain ⟨hi1, hi2, hi3, hi4⟩ := HI.out
            have hz6 := HB6.out.size
            have hxs := HXS.out
            go_wp2_with (at_builtin; refine wpList_append_own _ rfl _ _ 42 rfl w3.heap.size 57 ei _ 5 32 undFls hi1 hi2 hi3 hi4 rfl (by decide) u11 k (flCells (ownR D (L.take k) s)) rfl (HR6.out.alloc _) ⟨w6.heap.size, 0, none⟩ 1 1 [.int .i64 s, .int .i64 x.col, .int .i64 x.row, .bool IB, .bool TB] rfl rfl ?c1 ?c2 ?c3 ?c4 ?c5 ?c6)
            case c1 => exact cells_new _ _ _
            case c2 => simp [Value.oneCell']
            case c3 => simp only [maxLen]; omega
            case c4 => omega
            case c5 => simp; omega
            case c6 =>
              rintro v' w7 hown hgrow -
              have HB8 := Lib.hid (HB6.out.trans ((((Below.refl _ w6).alloc (Nat.le_refl _) (.cells #[.int .i64 s, .int .i64 x.col, .int .i64 x.row, .bool IB, .bool TB] 57)).mono hz6).trans (below_row (HR6.out.alloc _) (by simp; omega) hgrow)))
              have HO8 : Hid (w7.ownsRow w3.heap.size 57 5 v' (k + 1) (flCells (ownR D (L.take (k + 1)) s))) := Lib.hid (by
                rw [HNX.out, flCells_append]
                exact hown)
              clear hgrow hown hi1 hi2 hi3 hi4
              go_wp2_with fail
              go_roundw
              case rel => exact ⟨k + 1, by omega, by go_num, HO8, HB8⟩
              case measure => simp [intOf]; omega
        · obtain rfl : k = q := by omega
          have hz3 := HB.out.size
          have hz2 := HZ.out
          have HS1 := Lib.hid (HS.out.later HB.out)
          have hLt : L.take k = L := by rw [HQ.out]; exact List.take_length
          have HO1 : Hid (wr.ownsRow w3.heap.size 57 5 u11 k (flCells (ownR D L s))) := Lib.hid (by have h := HO.out; rwa [hLt] at h)
          clear HO hLt
          obtain ⟨go, co, rfl, hgo1, hgo2, hgo3, hgo4⟩ := row_formK HO1.out (by omega)
          obtain ⟨h, hh⟩ : ∃ h, h = k / 2 := ⟨_, rfl⟩
          have hh1 : h ≤ k := by omega
          have hh2 : ((k : Int) / 2) = (h : Int) := by omega
          have hol : (ownR D L s).length = k := by rw [ownR_len, ← HQ.out]
          have HOL := Lib.hid hol
          obtain ⟨NF, hNF⟩ : ∃ n, n = (firstR D L s).length := ⟨_, rfl⟩
          have hNF64 : NF ≤ 64 := by
            rw [hNF, firstR_len, ← HQ.out]
            exact Nat.le_trans (Nat.mul_le_mul (show s ≤ 4 by omega) (show k / 2 ≤ 16 by omega)) (by omega)
          obtain ⟨NS, hNS⟩ : ∃ n, n = (secondR D L s).length := ⟨_, rfl⟩
          have hNS64 : NS ≤ 64 := by
            rw [hNS, secondR_len, ← HQ.out]
            exact Nat.le_trans (Nat.mul_le_mul (show s ≤ 4 by omega) (show k - k / 2 ≤ 16 by omega)) (by omega)
          have HNF := Lib.hid hNF
          have HNS := Lib.hid hNS
          have hfr := HS1.out.frow
          rw [← hNF] at hfr
          have hX1l : ((ownR D L s).take h).length = h := by rw [List.length_take, hol]; omega
          have HX1L := Lib.hid hX1l
          have HH := Lib.hid hh
          have hown1 := fun j u hj => row_from HO1.out 0 j u hj
          simp only [Nat.zero_mul, List.drop_zero] at hown1
          have HOW := Lib.hid hown1
          clear hh hol hNF hNS hX1l hown1
          obtain ⟨hi1, hi2, hi3, hi4⟩ := HI.out
          go_wp2_with (at_builtin; refine wpList_append_own_at _ rfl _ _ 42 rfl w2.heap.size 57 ei _ 5 32 undFls hi1 hi2 hi3 hi4 rfl (by decide) u8 NF (flCells (firstR D L s)) rfl hfr ⟨go, 0, none⟩ h co (flCells ((ownR D L s).take h)) rfl ?a1 ?a2 ?a3 ?a4 ?a5 ?a6 ?a7)
          case a1 => rw [flCells_len, HX1L.out]
          case a2 =>
            intro j u hj
            refine HOW.out j u ?_
            rw [← flCells_take _ _ (by rw [HOL.out]; exact hh1)] at hj
            obtain ⟨hj1, -⟩ := List.getElem?_eq_some_iff.1 hj
            rw [List.length_take] at hj1
            rwa [List.getElem?_take_of_lt (by omega)] at hj
          case a3 => exact flCells_one
          case a4 => simp only [maxLen]; omega
          case a5 => omega
          case a6 => omega
          case a7 =>
            rintro v8 w5 hown hgrow - hat
            have HS5 := Lib.hid (HS1.out.first (X := (ownR D L s).take h) hown (by rw [HNF.out, HX1L.out]) hgrow hat)
            have HO5 : Hid (w5.ownsRow w3.heap.size 57 5 (.slice (some ⟨go, 0, none⟩) k co) k (flCells (ownR D L s))) := Lib.hid (HO1.out.kept hgrow (by
              refine Or.inr fun e => ?_
              have := (HS.out.frow.lt go (by rw [← e]; rfl)).2
              omega))
            have hz5 := hgrow.size
            clear hown hgrow hat hfr HS1 HO1 HOW hi1 hi2 hi3 hi4 HB
            have HE0 : (w5.alloc (.cells #[] 57)).ownsRow w5.heap.size 57 5 (.slice (some ⟨w5.heap.size, 0, none⟩) 0 0) 0 [] := World.ownsRow_lit w5 #[] 0 (Nat.le_refl _) (by simp [maxLen]) rfl
            have HEB : Below w5.heap.size w5 (w5.alloc (.cells #[] 57)) := (Below.refl _ w5).alloc (Nat.le_refl _) _
            have HOE := Lib.hid (row_later HO5.out HEB)
            have hX2l : ((ownR D L s).drop h).length = k - h := by rw [List.length_drop, HOL.out]
            have HX2L := Lib.hid hX2l
            have hown2 := fun j u hj => row_from HOE.out h j u hj
            rw [flCells_drop _ _ (by rw [HOL.out]; exact hh1)] at hown2
            have HOW := Lib.hid hown2
            have HEB' := Lib.hid HEB
            have HE0' := Lib.hid HE0
            have hsz6 : w5.heap.size ≤ (w5.alloc (.cells #[] 57)).heap.size := HEB.size
            clear hown2 hX2l HEB HE0
            obtain ⟨hi1, hi2, hi3, hi4⟩ := HI.out
            go_wp2_with (at_builtin; refine wpList_append_own _ rfl _ _ 42 rfl w5.heap.size 57 ei _ 5 32 undFls hi1 hi2 hi3 hi4 rfl (by decide) (.slice (some ⟨w5.heap.size, 0, none⟩) 0 0) 0 [] rfl HE0'.out ⟨go, h * 5, none⟩ (k - h) (co - h) (flCells ((ownR D L s).drop h)) rfl ?b1 ?b2 ?b3 ?b4 ?b5 ?b6 ?b7)
            case b1 => rw [flCells_len, HX2L.out]
            case b2 => exact HOW.out
            case b3 => exact flCells_one
            case b4 => simp only [maxLen]; omega
            case b5 => omega
            case b6 => exact hsz6
            case b7 =>
              rintro v9 w6 hown hgrow -
              have hb6 : Below w5.heap.size w5 w6 := HEB'.out.trans (below_row HE0'.out hsz6 hgrow)
              have HS6 := Lib.hid (HS5.out.later hb6)
              have HR6 : Hid (w6.ownsRow w5.heap.size 57 5 v9 (k - h) (flCells ((ownR D L s).drop h))) := Lib.hid (by
                first
                  | exact hown
                  | (rw [Nat.zero_add, List.nil_append] at hown; exact hown))
              have HB6 := Lib.hid hb6
              have hz6 := hb6.size
              clear hown hgrow hb6 HOW HEB' HE0' hsz6 HOE HO5
              by_cases hs0 : s = 0
              · have hu9 := HV0.out hs0
                subst hs0
                subst hu9
                go_wp2_with (at_builtin; refine wpList_append_own_none rfl _ _ 42 rfl w5.heap.size 57 ei 5 undFls hi1 v9 (k - h) (flCells ((ownR D L 0).drop h)) rfl HR6.out rfl ?_)
                have HR7 : Hid (w6.ownsRow w5.heap.size 57 5 v9 (secondR D L (0 + 1)).length (flCells (secondR D L (0 + 1)))) := Lib.hid (by
                  have e : secondR D L (0 + 1) = (ownR D L 0).drop h := by
                    show (ownR D L 0).drop ((ownR D L 0).length / 2) ++ secondR D L 0 = _
                    rw [HOL.out, ← HH.out]
                    exact List.append_nil _
                  rw [e, HX2L.out]
                  exact HR6.out)
                have HS7 := Lib.hid (HS5.out.second (X := secondR D L (0 + 1)) HR7.out (by omega) HB6.out)
                clear hi1 hi2 hi3 hi4
                go_wp2_with fail
                go_roundw
                case rel => exact ⟨0 + 1, by omega, by go_num, Lib.hid (fun h => by omega), (by
                  have h := HS7.out
                  rw [firstR_succ, HOL.out, ← HH.out]
                  exact h), Lib.hid (by omega)⟩
                case measure => simp [intOf]; omega
              · have hNS1 : 1 ≤ NS := by
                  have h1 : 1 * 1 ≤ s * (k - k / 2) := Nat.mul_le_mul (by omega) (by omega)
                  rw [HNS.out, secondR_len, ← HQ.out]
                  omega
                have hsr := HS6.out.srow
                rw [← HNS.out] at hsr
                obtain ⟨g9, c9, hu9, hg91, hg92, hg93, hg94⟩ := row_formK hsr (by omega)
                have hown9 := fun j u hj => row_from (k := 0) (by rw [hu9] at hsr; exact hsr) j u hj
                simp only [Nat.zero_mul, List.drop_zero] at hown9
                have HOW9 := Lib.hid hown9
                subst hu9
                clear hown9 hsr
                go_wp2_with (at_builtin; refine wpList_append_own _ rfl _ _ 42 rfl w5.heap.size 57 ei _ 5 32 undFls hi1 hi2 hi3 hi4 rfl (by decide) v9 (k - h) (flCells ((ownR D L s).drop h)) rfl HR6.out ⟨g9, 0, none⟩ NS c9 (flCells (secondR D L s)) rfl ?d1 ?d2 ?d3 ?d4 ?d5 ?d6 ?d7)
                case d1 => rw [flCells_len, HNS.out]
                case d2 => exact HOW9.out
                case d3 => exact flCells_one
                case d4 => simp only [maxLen]; omega
                case d5 => omega
                case d6 => omega
                case d7 =>
                  rintro v10 w7 hown hgrow -
                  have hb7 : Below w5.heap.size w6 w7 := below_row HR6.out hz6 hgrow
                  have HB7 := Lib.hid (HB6.out.trans hb7)
                  have hz7 := hgrow.size
                  have HR7 : Hid (w7.ownsRow w5.heap.size 57 5 v10 (secondR D L (s + 1)).length (flCells (secondR D L (s + 1)))) := Lib.hid (by
                    have e : secondR D L (s + 1) = (ownR D L s).drop h ++ secondR D L s := by
                      show (ownR D L s).drop ((ownR D L s).length / 2) ++ secondR D L s = _
                      rw [HOL.out, ← HH.out]
                    rw [e, List.length_append, HX2L.out, ← HNS.out, flCells_append]
                    exact hown)
                  have HS7 := Lib.hid (HS5.out.second (X := secondR D L (s + 1)) HR7.out (by omega) HB7.out)
                  clear hi1 hi2 hi3 hi4 hown hgrow hb7
                  go_wp2_with fail
                  go_roundw
                  case rel => exact ⟨s + 1, by omega, by go_num, Lib.hid (fun h => by omega), (by
                    have h := HS7.out
                    rw [firstR_succ, HOL.out, ← HH.out]
                    exact h), Lib.hid (by omega)⟩
                  case measure => simp [intOf]; omega
    · obtain rfl : s = sn := by omega
      obtain ⟨NF, hNF⟩ : ∃ n, n = (firstR D L s).length := ⟨_, rfl⟩
      have hNF64 : NF ≤ 64 := by
        rw [hNF, firstR_len, ← HQ.out]
        exact Nat.le_trans (Nat.mul_le_mul hs4 (show q / 2 ≤ 16 by omega)) (by omega)
      obtain ⟨NS, hNS⟩ : ∃ n, n = (secondR D L s).length := ⟨_, rfl⟩
      have hNS64 : NS ≤ 64 := by
        rw [hNS, secondR_len, ← HQ.out]
        exact Nat.le_trans (Nat.mul_le_mul hs4 (show q - q / 2 ≤ 16 by omega)) (by omega)
      have hNS1 : 1 ≤ NS := by
        have h1 : 1 * 1 ≤ s * (q - q / 2) := Nat.mul_le_mul (by omega) (by omega)
        rw [hNS, secondR_len, ← HQ.out]
        omega
      have hfr := HS.out.frow
      have hsr := HS.out.srow
      rw [← hNF] at hfr
      rw [← hNS] at hsr
      have hzr := HZ.out
      obtain ⟨g9, c9, hu9, hg91, hg92, hg93, hg94⟩ := row_formK hsr (by omega)
      have hown9 := fun j u hj => row_from (k := 0) (by rw [hu9] at hsr; exact hsr) j u hj
      simp only [Nat.zero_mul, List.drop_zero] at hown9
      have HOW9 := Lib.hid hown9
      have HNF := Lib.hid hNF
      have HNS := Lib.hid hNS
      subst hu9
      clear hown9 hsr hNF hNS
      obtain ⟨hi1, hi2, hi3, hi4⟩ := HI.out
      go_wp2_with (at_builtin; refine wpList_append_own _ rfl _ _ 42 rfl w2.heap.size 57 ei _ 5 32 undFls hi1 hi2 hi3 hi4 rfl (by decide) u8 NF (flCells (firstR D L s)) rfl hfr ⟨g9, 0, none⟩ NS c9 (flCells (secondR D L s)) rfl ?e1 ?e2 ?e3 ?e4 ?e5 ?e6 ?e7)
      case e1 => rw [flCells_len, HNS.out]
      case e2 => exact HOW9.out
      case e3 => exact flCells_one
      case e4 => simp only [maxLen]; omega
      case e5 => omega
      case e6 => omega
      case e7 =>
        rintro v10 w7 hown hgrow -
        have hall : allR D s hf7 = firstR D L s ++ secondR D L s := by rw [allR_is, ← HLL.out]
        have hrow : w7.ownsRow w2.heap.size 57 5 v10 (allR D s hf7).length (flCells (allR D s hf7)) := by
          rw [hall, List.length_append, ← HNF.out, ← HNS.out, flCells_append]
          exact hown
        have hbw : Below w.heap.size w w7 := HS.out.bel.trans ((below_row hfr HZ.out hgrow).mono (by have := HS.out.bB; omega))
        have hlen : 1 ≤ (allR D s hf7).length := by rw [hall, List.length_append, ← HNF.out, ← HNS.out]; omega
        obtain ⟨gz, hz1, hz2⟩ := leaves_of_row hrow hlen
        rw [← HL.out] at hz1
        have HZ1 := Lib.hid hz1
        have HBW := Lib.hid hbw
        have hz4 : w.heap.size ≤ gz := by have := HS.out.bB; omega
        clear hown hgrow hfr hi1 hi2 hi3 hi4 hz1 hrow hbw hall hlen
        go_wp2_with fail
        go_ret
        exact ⟨⟨_, gz, rfl, HZ1.out, hz4⟩, HBW.out⟩
end Go.Proofs.YtielaaaeecfkoaaGreatDoor

/- The reference: Leaves; whether leaves are the same; Mates. -/
namespace Go.Proofs.YtielaaaeecfkoaaGreatDoor
set_option linter.unusedSimpArgs false
set_option linter.unusedVariables false
open Go Go.RowKit Go.Sort Go.BigFrame

set_option maxRecDepth 100000 in
set_option maxHeartbeats 2000000 in
theorem refLeaves2_any (p : Prs) (m : Mkw) (f : Fmt) (vp : Value) (w : World) (hp : PrsAt w.heap.size w vp p) (he : errP p = 0) (hm : mkwErr p m = 0) (hf : p.fmts[m.fmt.toNat]? = some f) :
    Calls Tryz.prog 15 #[vp, mkwV m] w fun e w' => (∃ v g, e = .returned (.tuple #[v, .int .i64 0]) ∧ LeavesAt w' v (leavesW m f) g) ∧ Below w.heap.size w w' := by
  have HP := Lib.hid hp
  have HE := Lib.hid he
  have HM := Lib.hid hm
  have HF0 := Lib.hid hf
  have FN := Lib.hid (fine_of he hm hf)
  have HW0 : Hid (wayErr p m = 0) := Lib.hid (by unfold wayErr; rw [if_pos he]; exact hm)
  obtain ⟨hfm0, hfm1, -, -⟩ := fine_at he hm
  obtain ⟨fv, pv, rfl, ⟨a, cap, rfl, hfc⟩, ⟨a2, cap2, rfl, -⟩, -⟩ := hp
  obtain ⟨n1, hn1⟩ : ∃ n, n = p.fmts.length := ⟨_, rfl⟩
  obtain ⟨n2, hn2⟩ : ∃ n, n = p.pprs.length := ⟨_, rfl⟩
  obtain ⟨b', off, rfl, hb', hc⟩ := hfc (fun h => by rw [h] at hf; simp at hf)
  have q1 : w.cell? ⟨b', off + m.fmt.toNat * 2 + 1, none⟩ = some (S f.folds) := by have := hc _ f hf 1 _ rfl; simpa using this
  rw [← hn1] at hfm1
  rw [← hn1, ← hn2] at HP ⊢
  have hs1 := FN.out.sh1
  have hs4 := FN.out.sh4
  have HQ1 := Lib.hid q1
  clear hn1 hn2 hc hf he hm hfc q1
  go_enter Tryz.func15, Tryz.ntmps15
  go_wp2_with fail
  refine (refMake3_any p m _ _ (HP.out.later (by exact (by repeat (first | exact Below.refl _ _ | assumption | (refine Below.alloc ?_ ?_ _; rotate_left; · (first | omega | (simp; done) | (simp; omega) | fail)) | (refine Below.setCell ?_ ?_ _; rotate_left; · (first | omega | (simp; done) | (simp; omega) | fail)) | refine Below.drew ?_ | fail))))).mono ?_
  rintro e w2 ⟨rfl, hb⟩
  rw [HW0.out]
  have hb0 : Below w.heap.size w w2 := Below.trans (by exact (by repeat (first | exact Below.refl _ _ | assumption | (refine Below.alloc ?_ ?_ _; rotate_left; · (first | omega | (simp; done) | (simp; omega) | fail)) | (refine Below.setCell ?_ ?_ _; rotate_left; · (first | omega | (simp; done) | (simp; omega) | fail)) | refine Below.drew ?_ | fail))) (hb.mono (by simp; try omega))
  have hx1 : w2.heap[w.heap.size]? = some (.cells #[.slice (some ⟨b', off, none⟩) n1 cap, .slice a2 n2 cap2, .int .i64 p.trim, .int .i64 p.sheets] 25 (0, 0)) := blk_later hb (by exact (by repeat (first | exact heap_alloc_at _ _ _ (by (first | omega | (simp; done) | (simp; omega) | (simp at *; omega) | fail)) | assumption | rw [heap_alloc_past _ _ _ (by (first | omega | (simp; done) | (simp; omega) | (simp at *; omega) | fail))] | rw [heap_setCell_past _ _ _ _ (by (first | omega | (simp; done) | (simp; omega) | (simp at *; omega) | fail))] | fail)))
  have hx2 : w2.heap[w.heap.size + 1]? = some (.cells #[.int .i64 m.fmt, .int .i64 m.ppr, .int .i64 m.sheets, .bool m.half] 38 (0, 0)) := blk_later hb (by exact (by repeat (first | exact heap_alloc_at _ _ _ (by (first | omega | (simp; done) | (simp; omega) | (simp at *; omega) | fail)) | assumption | rw [heap_alloc_past _ _ _ (by (first | omega | (simp; done) | (simp; omega) | (simp at *; omega) | fail))] | rw [heap_setCell_past _ _ _ _ (by (first | omega | (simp; done) | (simp; omega) | (simp at *; omega) | fail))] | fail)))
  have HX1 := Lib.hid hx1
  have HX2 := Lib.hid hx2
  have HB0 := Lib.hid hb0
  have hz2 := hb0.size
  clear hb hb0 hx1 hx2
  have c0 := blk_cell (HX1.out) 0
  have c1 := blk_cell (HX1.out) 1
  have c2 := blk_cell (HX1.out) 2
  have c3 := blk_cell (HX1.out) 3
  have d0 := blk_cell (HX2.out) 0
  have d1 := blk_cell (HX2.out) 1
  have d2 := blk_cell (HX2.out) 2
  have d3 := blk_cell (HX2.out) 3
  go_wp2_with fail
  refine (refAll2_any p m f _ _ (HP.out.later HB0.out) HE.out HM.out HF0.out).mono ?_
  rintro e w3 ⟨⟨v', g, rfl, hl, hg⟩, hb⟩
  have HL := Lib.hid hl
  have HB := Lib.hid (HB0.out.trans (hb.mono hz2))
  clear c0 c1 c2 c3 d0 d1 d2 d3 hl hb hg
  go_wp2_with fail
  go_ret2
  exact ⟨⟨_, g, rfl, HL.out⟩, HB.out⟩

set_option maxRecDepth 100000 in
set_option maxHeartbeats 1000000 in
theorem refSame_nil (w : World) : Calls Tryz.prog 16 #[.slice none 0 0, .slice none 0 0] w fun e w' => e = .returned (.bool true) ∧ Below w.heap.size w w' := by
  go_enter Tryz.func16, Tryz.ntmps16
  go_wp2_with fail
  go_loopw [5] (fun i wr => i = .int .i64 0 ∧ wr = w) (fun _ _ => 0)
  case atStart => exact ⟨rfl, rfl⟩
  case round =>
    obtain ⟨rfl, rfl⟩ := hrel
    go_wp2_with fail
    go_ret
    exact ⟨rfl, Below.refl _ _⟩
set_option maxRecDepth 100000 in
set_option maxHeartbeats 1000000 in
theorem refSame_any (ls : List Fl) (v u : Value) (g g' : Nat) (w : World) (hv : LeavesAt w v ls g) (hu : LeavesAt w u ls g') (hl : ls.length ≤ 1000) :
    Calls Tryz.prog 16 #[v, u] w fun e w' => e = .returned (.bool true) ∧ Below w.heap.size w w' := by
  have HV := Lib.hid hv
  have HU := Lib.hid hu
  obtain ⟨k7, rest, rfl, -⟩ := hv
  obtain ⟨k8, rest8, rfl, -⟩ := hu
  obtain ⟨n, hn⟩ : ∃ n, n = ls.length := ⟨_, rfl⟩
  have HN := Lib.hid hn
  rw [← hn] at HV HU hl ⊢
  clear hn
  go_enter Tryz.func16, Tryz.ntmps16
  go_wp2_with fail
  go_loopw [5] (fun i wr => ∃ (k : Nat), k ≤ n ∧ i = .int .i64 k ∧ Hid (Below w.heap.size w wr)) (fun i _ => n - (intOf i).toNat)
  case atStart => exact ⟨0, by omega, rfl, Below.refl _ _⟩
  case round =>
    obtain ⟨k, hk, rfl, HB⟩ := hrel
    by_cases hlt : k < n
    · obtain ⟨x, hx⟩ : ∃ x, ls[k]? = some x := ⟨_, List.getElem?_eq_getElem (by have := HN.out; omega)⟩
      have hv1 := HV.out.later HB.out
      have hu1 := HU.out.later HB.out
      obtain ⟨x0, x1, x2, x3, x4⟩ := leaf_cells hv1 hx
      obtain ⟨y0, y1, y2, y3, y4⟩ := leaf_cells hu1 hx
      clear hv1 hu1 hx
      go_wp2_with fail
      go_quiet (fail)
      go_wp2_with fail
      go_roundw
      case rel => exact ⟨k + 1, by omega, by go_num, Lib.hid (bdrewN HB.out _)⟩
      case measure => simp [intOf]; omega
    · obtain rfl : k = n := by omega
      go_wp2_with fail
      go_ret
      exact ⟨rfl, HB.out⟩
end Go.Proofs.YtielaaaeecfkoaaGreatDoor

/- The reference: Mates, of a way of making without an error. -/
namespace Go.Proofs.YtielaaaeecfkoaaGreatDoor
set_option linter.unusedSimpArgs false
set_option linter.unusedVariables false
open Go Go.RowKit Go.Sort Go.BigFrame

/-- Is a leaf a mate of another one? -/
def mateR (l : List Fl) (k i : Nat) : Bool := i != k && match l[i]?, l[k]? with
  | some a, some b => a.sheet == b.sheet
  | _, _ => false
theorem matesR_is (l : List Fl) (k : Nat) : matesR l k = (List.range l.length).filter (mateR l k) := rfl

set_option maxRecDepth 100000 in
set_option maxHeartbeats 4000000 in
theorem refMates2_any (p : Prs) (m : Mkw) (f : Fmt) (lf : Int) (vp : Value) (w : World) (hp : PrsAt w.heap.size w vp p) (he : errP p = 0) (hm : mkwErr p m = 0) (hf : p.fmts[m.fmt.toNat]? = some f) :
    Calls Tryz.prog 21 #[vp, mkwV m, .int .i64 lf] w fun e w' => (∃ v, e = .returned (if inI 0 (((leavesW m f).length : Int) - 1) lf then .tuple #[v, .int .i64 ((leavesW m f).length - 1 - lf), .int .i64 0] else .tuple #[.slice none 0 0, .int .i64 0, .int .i64 4]) ∧ (inI 0 (((leavesW m f).length : Int) - 1) lf = true → IntsAt w' v ((matesR (leavesW m f) lf.toNat).map fun (n : Nat) => (n : Int)))) ∧ Below w.heap.size w w' := by
  have hcnt := (fine_of he hm hf).count
  obtain ⟨ls, hls⟩ : ∃ ls, ls = leavesW m f := ⟨_, rfl⟩
  rw [← hls] at hcnt ⊢
  obtain ⟨N, hN⟩ : ∃ N, N = ls.length := ⟨_, rfl⟩
  rw [← hN] at hcnt ⊢
  have HN := Lib.hid hN
  have HLS := Lib.hid hls
  obtain ⟨hc1, hc2⟩ := hcnt
  obtain ⟨z, hz⟩ : ∃ z, z = inI 0 ((N : Int) - 1) lf := ⟨_, rfl⟩
  have HZ := Lib.hid hz
  rw [← hz]
  clear hN hls hz
  have HP := Lib.hid hp
  have HE := Lib.hid he
  have HM := Lib.hid hm
  have HF0 := Lib.hid hf
  have FN := Lib.hid (fine_of he hm hf)
  have HW0 : Hid (wayErr p m = 0) := Lib.hid (by unfold wayErr; rw [if_pos he]; exact hm)
  obtain ⟨hfm0, hfm1, -, -⟩ := fine_at he hm
  obtain ⟨fv, pv, rfl, ⟨a, cap, rfl, hfc⟩, ⟨a2, cap2, rfl, -⟩, -⟩ := hp
  obtain ⟨n1, hn1⟩ : ∃ n, n = p.fmts.length := ⟨_, rfl⟩
  obtain ⟨n2, hn2⟩ : ∃ n, n = p.pprs.length := ⟨_, rfl⟩
  obtain ⟨b', off, rfl, hb', hc⟩ := hfc (fun h => by rw [h] at hf; simp at hf)
  have q1 : w.cell? ⟨b', off + m.fmt.toNat * 2 + 1, none⟩ = some (S f.folds) := by have := hc _ f hf 1 _ rfl; simpa using this
  rw [← hn1] at hfm1
  rw [← hn1, ← hn2] at HP ⊢
  have hs1 := FN.out.sh1
  have hs4 := FN.out.sh4
  have HQ1 := Lib.hid q1
  clear hn1 hn2 hc hf he hm hfc q1
  go_enter Tryz.func21, Tryz.ntmps21
  go_wp2_with fail
  refine (refMake3_any p m _ _ (HP.out.later (by exact (by repeat (first | exact Below.refl _ _ | assumption | (refine Below.alloc ?_ ?_ _; rotate_left; · (first | omega | (simp; done) | (simp; omega) | fail)) | (refine Below.setCell ?_ ?_ _; rotate_left; · (first | omega | (simp; done) | (simp; omega) | fail)) | refine Below.drew ?_ | fail))))).mono ?_
  rintro e w2 ⟨rfl, hb⟩
  rw [HW0.out]
  have hb0 : Below w.heap.size w w2 := Below.trans (by exact (by repeat (first | exact Below.refl _ _ | assumption | (refine Below.alloc ?_ ?_ _; rotate_left; · (first | omega | (simp; done) | (simp; omega) | fail)) | (refine Below.setCell ?_ ?_ _; rotate_left; · (first | omega | (simp; done) | (simp; omega) | fail)) | refine Below.drew ?_ | fail))) (hb.mono (by simp; try omega))
  have hx1 : w2.heap[w.heap.size]? = some (.cells #[.slice (some ⟨b', off, none⟩) n1 cap, .slice a2 n2 cap2, .int .i64 p.trim, .int .i64 p.sheets] 25 (0, 0)) := blk_later hb (by exact (by repeat (first | exact heap_alloc_at _ _ _ (by (first | omega | (simp; done) | (simp; omega) | (simp at *; omega) | fail)) | assumption | rw [heap_alloc_past _ _ _ (by (first | omega | (simp; done) | (simp; omega) | (simp at *; omega) | fail))] | rw [heap_setCell_past _ _ _ _ (by (first | omega | (simp; done) | (simp; omega) | (simp at *; omega) | fail))] | fail)))
  have hx2 : w2.heap[w.heap.size + 1]? = some (.cells #[.int .i64 m.fmt, .int .i64 m.ppr, .int .i64 m.sheets, .bool m.half] 38 (0, 0)) := blk_later hb (by exact (by repeat (first | exact heap_alloc_at _ _ _ (by (first | omega | (simp; done) | (simp; omega) | (simp at *; omega) | fail)) | assumption | rw [heap_alloc_past _ _ _ (by (first | omega | (simp; done) | (simp; omega) | (simp at *; omega) | fail))] | rw [heap_setCell_past _ _ _ _ (by (first | omega | (simp; done) | (simp; omega) | (simp at *; omega) | fail))] | fail)))
  have HX1 := Lib.hid hx1
  have HX2 := Lib.hid hx2
  have HB0 := Lib.hid hb0
  have hz2 := hb0.size
  clear hb hb0 hx1 hx2
  have c0 := blk_cell (HX1.out) 0
  have c1 := blk_cell (HX1.out) 1
  have c2 := blk_cell (HX1.out) 2
  have c3 := blk_cell (HX1.out) 3
  have d0 := blk_cell (HX2.out) 0
  have d1 := blk_cell (HX2.out) 1
  have d2 := blk_cell (HX2.out) 2
  have d3 := blk_cell (HX2.out) 3
  go_wp2_with fail
  refine (refAll2_any p m f _ _ (HP.out.later HB0.out) HE.out HM.out HF0.out).mono ?_
  rintro e w1 ⟨⟨v', g, rfl, hl, hg⟩, hb⟩
  rw [← HLS.out] at hl
  have HL := Lib.hid hl
  have HB1 := Lib.hid (HB0.out.trans (hb.mono hz2))
  obtain ⟨k7, rest, rfl, -⟩ := hl
  rw [← HN.out] at HL ⊢
  clear c0 c1 c2 c3 d0 d1 d2 d3 hb hg
  go_wp2_with fail
  refine (in2_is lf 0 ((N : Int) - 1) z HZ.out _).mono ?_
  rintro e w3 ⟨rfl, hb⟩
  have HL3 := Lib.hid (HL.out.later hb)
  have HB3 := Lib.hid (HB1.out.trans (hb.mono HB1.out.size))
  clear hb HL HB1
  cases z with
  | false =>
    go_wp2_with fail
    go_ret3
    exact ⟨rfl, HB3.out⟩
  | true =>
    have h1 : inI 0 ((N : Int) - 1) lf = true := HZ.out.symm
    obtain ⟨lf, rfl⟩ : ∃ i : Nat, lf = i := ⟨lf.toNat, by simp only [inI, Bool.and_eq_true, decide_eq_true_eq] at h1; omega⟩
    have hlf : lf < N := by simp only [inI, Bool.and_eq_true, decide_eq_true_eq] at h1; omega
    obtain ⟨y, hy⟩ : ∃ y, ls[lf]? = some y := ⟨_, List.getElem?_eq_getElem (by have := HN.out; omega)⟩
    have HY := Lib.hid hy
    obtain ⟨ei, hi1, hi2, hi3, hi4⟩ := elemInt
    have HI := Lib.hid (And.intro hi1 (And.intro hi2 (And.intro hi3 hi4)))
    clear h1 HZ hy hi1 hi2 hi3 hi4
    go_wp2_with fail
    go_loopw [11, 12] (fun v i wr => ∃ (k : Nat), k ≤ N ∧ i = .int .i64 k ∧ Hid (wr.ownsRow w3.heap.size 3 1 v ((List.range k).filter (mateR ls lf)).length (intVs ((List.range k).filter (mateR ls lf)))) ∧ Hid (Below w3.heap.size w3 wr)) (fun _ i _ => N - (intOf i).toNat)
    case atStart => exact ⟨0, by omega, rfl, World.ownsRow_nil _ _ _ _, Below.refl _ _⟩
    case round =>
      obtain ⟨k, hk, rfl, HR, HB⟩ := hrel
      by_cases hlt : k < N
      · obtain ⟨x, hx⟩ : ∃ x, ls[k]? = some x := ⟨_, List.getElem?_eq_getElem (by have := HN.out; omega)⟩
        have hrl := range_filter_len (mateR ls lf) k
        by_cases hkl : k = lf
        · have HF : Hid (mateR ls lf k = false) := Lib.hid (by unfold mateR; simp [hkl])
          have e1 : ((k : Int) != (lf : Int)) = false := by simp [hkl]
          clear hx hkl
          go_wp2_with fail
          go_quiet (fail)
          go_wp2_with fail
          go_roundw
          case rel => exact ⟨k + 1, by omega, by go_num, (by show World.ownsRow _ _ _ _ _ _ _; rw [range_filter_no HF.out]; exact row_later HR.out (bdrewN (Below.refl _ _) _)), bdrewN HB.out _⟩
          case measure => simp [intOf]; omega
        · have e1 : ((k : Int) != (lf : Int)) = true := by simp; omega
          have hL4 := HL3.out.later HB.out
          obtain ⟨x0, -⟩ := leaf_cells hL4 hx
          obtain ⟨y0, -⟩ := leaf_cells hL4 HY.out
          by_cases hsh : x.sheet = y.sheet
          · have e2 : ((x.sheet : Int) == (y.sheet : Int)) = true := by simp [hsh]
            have HF : Hid (mateR ls lf k = true) := Lib.hid (by unfold mateR; rw [hx, HY.out]; simp [hsh, hkl])
            clear hx hsh hkl hL4
            go_wp2_with fail
            go_quiet (fail)
            have HR := Lib.hid (row_later HR.out (bdrewN (Below.refl _ wr) nq))
            have HB := Lib.hid (bdrewN HB.out nq)
            clear x0 y0
            generalize wr.drewN nq = w4 at *
            obtain ⟨hi1, hi2, hi3, hi4⟩ := HI.out
            have hzr := HB.out.size
            go_wp2_with (at_builtin; go_must (refine wpList_append_own _ rfl _ _ 39 rfl w3.heap.size 3 ei _ 1 8 undInts hi1 hi2 hi3 hi4 rfl (by decide) u11 ((List.range k).filter (mateR ls lf)).length (intVs ((List.range k).filter (mateR ls lf))) rfl (HR.out.alloc _) ⟨w4.heap.size, 0, none⟩ 1 1 [.int .i64 k] rfl rfl ?a1 ?b1 ?c1 ?d1 ?e1 ?f1))
            case a1 =>
              intro j u hju
              rw [add_offi]
              unfold World.cell?
              rw [World.alloc_heap_new]
              simpa using hju
            case b1 => simp [Value.oneCell']
            case c1 => simp only [maxLen]; omega
            case d1 => omega
            case e1 => (first | omega | (simp; omega))
            case f1 =>
              rintro v' w7 hown hgrow -
              have HB7 := Lib.hid (HB.out.trans ((((Below.refl _ w4).alloc (Nat.le_refl _) (.cells #[.int .i64 k] 3)).mono hzr).trans (below_row (HR.out.alloc _) (by simp; omega) hgrow)))
              have HO := Lib.hid hown
              clear hgrow hown hi1 hi2 hi3 hi4
              go_wp2_with fail
              go_roundw
              case rel => exact ⟨k + 1, by omega, by go_num, (by
                show World.ownsRow _ _ _ _ _ _ _
                rw [range_filter_yes HF.out]
                have h := HO.out
                simpa [intVs] using h), HB7.out⟩
              case measure => simp [intOf]; omega
          · have e2 : ((x.sheet : Int) == (y.sheet : Int)) = false := by simp; omega
            have HF : Hid (mateR ls lf k = false) := Lib.hid (by unfold mateR; rw [hx, HY.out]; simp [hsh])
            clear hx hsh hkl hL4
            go_wp2_with fail
            go_quiet (fail)
            go_wp2_with fail
            go_roundw
            case rel => exact ⟨k + 1, by omega, by go_num, (by show World.ownsRow _ _ _ _ _ _ _; rw [range_filter_no HF.out]; exact row_later HR.out (bdrewN (Below.refl _ _) _)), bdrewN HB.out _⟩
            case measure => simp [intOf]; omega
      · obtain rfl : k = N := by omega
        have e1 : ((k : Int) - 1 - (lf : Int)) = ((k - 1 - lf : Nat) : Int) := by omega
        go_wp2_with fail
        go_ret3
        exact ⟨⟨_, rfl, by rw [matesR_is, ← HN.out]; exact ints_of_row HR.out⟩, HB3.out.trans (HB.out.mono HB3.out.size)⟩
end Go.Proofs.YtielaaaeecfkoaaGreatDoor

/- What is worked out for each of finitely many arguments: how often a letter is in folds (the reference). -/
namespace Go.Proofs.YtielaaaeecfkoaaGreatDoor
set_option linter.unusedSimpArgs false
set_option linter.unusedVariables false
open Go Go.RowKit

noncomputable def timesOk (ch : Nat) (x : Fds → Nat) (f : Fds) : Bool := match evCall Tryz.prog 100000 0 54 [.lit (S (bytesF f)), .lit (.int .u8 ch)] h01 with
  | .ok (.lit (.int .i64 n), _) => decide (n = x f)
  | _ => false
theorem timesX_all : allFolds.all (timesOk 120 colsF) = true := by kernel_rfl
theorem timesY_all : allFolds.all (timesOk 121 rowsF) = true := by kernel_rfl
theorem times_of {ch : Nat} {x : Fds → Nat} (ha : allFolds.all (timesOk ch x) = true) {f : Fds} (h1 : 1 ≤ f.length) (h2 : f.length ≤ 4) (W : World) :
    Calls Tryz.prog 54 #[S (bytesF f), .int .u8 ch] W fun en W' => en = .returned (.int .i64 (x f)) ∧ Below W.heap.size W W' := by
  have hk := List.all_eq_true.1 ha f (allFolds_mem h1 h2)
  unfold timesOk at hk
  split at hk
  · rename_i n h' he
    have hn : n = x f := by simpa using hk
    subst hn
    refine (eval_lits followsT (ys := [S (bytesF f), .int .u8 ch]) (W := W) he).mono ?_
    rintro en W' ⟨v, e', rfl, hx, -, hb, -⟩
    rw [VR_lit.1 hx]
    exact ⟨rfl, hb⟩
  · cases hk
/-- **The reference's times.** -/
theorem refTimesX {f : Fds} (h1 : 1 ≤ f.length) (h2 : f.length ≤ 4) (W : World) :
    Calls Tryz.prog 54 #[S (bytesF f), .int .u8 120] W fun en W' => en = .returned (.int .i64 (colsF f)) ∧ Below W.heap.size W W' := times_of timesX_all h1 h2 W
theorem refTimesY {f : Fds} (h1 : 1 ≤ f.length) (h2 : f.length ≤ 4) (W : World) :
    Calls Tryz.prog 54 #[S (bytesF f), .int .u8 121] W fun en W' => en = .returned (.int .i64 (rowsF f)) ∧ Below W.heap.size W W' := times_of timesY_all h1 h2 W
end Go.Proofs.YtielaaaeecfkoaaGreatDoor

/- The reference: Forme, of a way of making without an error. -/
namespace Go.Proofs.YtielaaaeecfkoaaGreatDoor
set_option linter.unusedSimpArgs false
set_option linter.unusedVariables false
open Go Go.RowKit Go.Sort Go.BigFrame

/-- What a forme bears, row by row, and of one row. -/
def fB (ls : List Fl) (sh : Nat) (inner : Bool) (r c : Nat) : List Int := (List.range c).filterMap fun c => spotF ls sh c r inner
def fA (ls : List Fl) (sh : Nat) (inner : Bool) (co r : Nat) : List Int := (List.range r).flatMap fun r => fB ls sh inner r co
theorem fB_succ (ls : List Fl) (sh : Nat) (inner : Bool) (r c : Nat) : fB ls sh inner r (c + 1) = fB ls sh inner r c ++ (spotF ls sh c r inner).toList := by
  unfold fB
  rw [List.range_succ, List.filterMap_append]
  congr 1
theorem fA_succ (ls : List Fl) (sh : Nat) (inner : Bool) (co r : Nat) : fA ls sh inner co (r + 1) = fA ls sh inner co r ++ fB ls sh inner r co := by simp [fA, List.range_succ]
theorem fB_len (ls : List Fl) (sh : Nat) (inner : Bool) (r c : Nat) : (fB ls sh inner r c).length ≤ c := by
  unfold fB
  refine Nat.le_trans (List.length_filterMap_le _ _) ?_
  rw [List.length_range]; omega
theorem fA_len (ls : List Fl) (sh : Nat) (inner : Bool) (co r : Nat) (h : co ≤ 16) : (fA ls sh inner co r).length ≤ r * 16 := flat_len_le _ _ (fun k => Nat.le_trans (fB_len ls sh inner k co) h) r
theorem formeR_is (ls : List Fl) (ro co sh : Nat) (inner : Bool) : formeR ls ro co sh inner = fA ls sh inner co ro := rfl
theorem spot_some {ls : List Fl} {s c r k : Nat} {x : Fl} (inner : Bool) (h : atF ls s c r = some k) (hx : ls[k]? = some x) : spotF ls s c r inner = some (pageF k x inner) := by
  unfold spotF
  rw [h]
  show (match ls[k]? with | some a => some (pageF k a inner) | none => none) = _
  rw [hx]
theorem at_lt {ls : List Fl} {s c r k : Nat} (h : atF ls s c r = some k) : k < ls.length := by
  rw [atF_is, List.findIdx?_eq_some_iff_getElem] at h
  exact h.1

set_option maxRecDepth 100000 in
set_option maxHeartbeats 2000000 in
theorem refForme_none (p : Prs) (m : Mkw) (f : Fmt) (sh : Int) (inner : Bool) (vp : Value) (w : World) (hp : PrsAt w.heap.size w vp p) (he : errP p = 0) (hm : mkwErr p m = 0) (hf : p.fmts[m.fmt.toNat]? = some f) (hsh : inB 0 (m.sheets - 1) sh = false) :
    Calls Tryz.prog 18 #[vp, mkwV m, .int .i64 sh, .bool inner] w fun e w' => e = .returned (.tuple #[.slice none 0 0, .int .i64 4]) ∧ Below w.heap.size w w' := by
  have HSH : Hid (false = inI 0 (m.sheets - 1) sh) := Lib.hid (by rw [inI_inB]; exact hsh.symm)
  have hm1 : 1 ≤ m.sheets ∧ m.sheets ≤ 4 := by have := (fine_of he hm hf).sh1; have := (fine_of he hm hf).sh4; omega
  obtain ⟨hm1, hm2⟩ := hm1
  clear hsh
  have HP := Lib.hid hp
  have HE := Lib.hid he
  have HM := Lib.hid hm
  have HF0 := Lib.hid hf
  have FN := Lib.hid (fine_of he hm hf)
  have HW0 : Hid (wayErr p m = 0) := Lib.hid (by unfold wayErr; rw [if_pos he]; exact hm)
  obtain ⟨hfm0, hfm1, -, -⟩ := fine_at he hm
  obtain ⟨fv, pv, rfl, ⟨a, cap, rfl, hfc⟩, ⟨a2, cap2, rfl, -⟩, -⟩ := hp
  obtain ⟨n1, hn1⟩ : ∃ n, n = p.fmts.length := ⟨_, rfl⟩
  obtain ⟨n2, hn2⟩ : ∃ n, n = p.pprs.length := ⟨_, rfl⟩
  obtain ⟨b', off, rfl, hb', hc⟩ := hfc (fun h => by rw [h] at hf; simp at hf)
  have q1 : w.cell? ⟨b', off + m.fmt.toNat * 2 + 1, none⟩ = some (S f.folds) := by have := hc _ f hf 1 _ rfl; simpa using this
  rw [← hn1] at hfm1
  rw [← hn1, ← hn2] at HP ⊢
  have hs1 := FN.out.sh1
  have hs4 := FN.out.sh4
  have HQ1 := Lib.hid q1
  clear hn1 hn2 hc hf he hm hfc q1
  go_enter Tryz.func18, Tryz.ntmps18
  go_wp2_with fail
  refine (refMake3_any p m _ _ (HP.out.later (by exact (by repeat (first | exact Below.refl _ _ | assumption | (refine Below.alloc ?_ ?_ _; rotate_left; · (first | omega | (simp; done) | (simp; omega) | fail)) | (refine Below.setCell ?_ ?_ _; rotate_left; · (first | omega | (simp; done) | (simp; omega) | fail)) | refine Below.drew ?_ | fail))))).mono ?_
  rintro e w2 ⟨rfl, hb⟩
  rw [HW0.out]
  have hb0 : Below w.heap.size w w2 := Below.trans (by exact (by repeat (first | exact Below.refl _ _ | assumption | (refine Below.alloc ?_ ?_ _; rotate_left; · (first | omega | (simp; done) | (simp; omega) | fail)) | (refine Below.setCell ?_ ?_ _; rotate_left; · (first | omega | (simp; done) | (simp; omega) | fail)) | refine Below.drew ?_ | fail))) (hb.mono (by simp; try omega))
  have hx1 : w2.heap[w.heap.size]? = some (.cells #[.slice (some ⟨b', off, none⟩) n1 cap, .slice a2 n2 cap2, .int .i64 p.trim, .int .i64 p.sheets] 25 (0, 0)) := blk_later hb (by exact (by repeat (first | exact heap_alloc_at _ _ _ (by (first | omega | (simp; done) | (simp; omega) | (simp at *; omega) | fail)) | assumption | rw [heap_alloc_past _ _ _ (by (first | omega | (simp; done) | (simp; omega) | (simp at *; omega) | fail))] | rw [heap_setCell_past _ _ _ _ (by (first | omega | (simp; done) | (simp; omega) | (simp at *; omega) | fail))] | fail)))
  have hx2 : w2.heap[w.heap.size + 1]? = some (.cells #[.int .i64 m.fmt, .int .i64 m.ppr, .int .i64 m.sheets, .bool m.half] 38 (0, 0)) := blk_later hb (by exact (by repeat (first | exact heap_alloc_at _ _ _ (by (first | omega | (simp; done) | (simp; omega) | (simp at *; omega) | fail)) | assumption | rw [heap_alloc_past _ _ _ (by (first | omega | (simp; done) | (simp; omega) | (simp at *; omega) | fail))] | rw [heap_setCell_past _ _ _ _ (by (first | omega | (simp; done) | (simp; omega) | (simp at *; omega) | fail))] | fail)))
  have HX1 := Lib.hid hx1
  have HX2 := Lib.hid hx2
  have HB0 := Lib.hid hb0
  have hz2 := hb0.size
  clear hb hb0 hx1 hx2
  have d0 := blk_cell (HX2.out) 0
  have d1 := blk_cell (HX2.out) 1
  have d2 := blk_cell (HX2.out) 2
  have d3 := blk_cell (HX2.out) 3
  go_wp2_with fail
  refine (in2_is sh 0 (m.sheets - 1) false HSH.out _).mono ?_
  rintro e w3 ⟨rfl, hb⟩
  have HB3 := Lib.hid (HB0.out.trans (hb.mono HB0.out.size))
  clear hb d0 d1 d2 d3
  go_wp2_with fail
  go_ret2
  exact ⟨rfl, HB3.out⟩

set_option maxRecDepth 100000 in
set_option maxHeartbeats 4000000 in
theorem refForme2_any (p : Prs) (m : Mkw) (f : Fmt) (sh : Nat) (inner : Bool) (vp : Value) (w : World) (hp : PrsAt w.heap.size w vp p) (he : errP p = 0) (hm : mkwErr p m = 0) (hf : p.fmts[m.fmt.toNat]? = some f) (hsh : sh < m.sheets.toNat) :
    Calls Tryz.prog 18 #[vp, mkwV m, .int .i64 sh, .bool inner] w fun e w' => (∃ v', e = .returned (.tuple #[v', .int .i64 0]) ∧ w'.ownsRow w.heap.size 3 1 v' (formeR (leavesW m f) (rowsF (fdsB f.folds)) (colsF (fdsB f.folds)) sh inner).length (intZs (formeR (leavesW m f) (rowsF (fdsB f.folds)) (colsF (fdsB f.folds)) sh inner))) ∧ Below w.heap.size w w' := by
  have HSH : Hid (true = inI 0 (m.sheets - 1) sh) := Lib.hid (by unfold inI; rw [decide_eq_true (by omega), decide_eq_true (by omega)]; rfl)
  have hm1 : 1 ≤ m.sheets ∧ m.sheets ≤ 4 := by have := (fine_of he hm hf).sh1; have := (fine_of he hm hf).sh4; omega
  obtain ⟨hm1, hm2⟩ := hm1
  have hcnt := (fine_of he hm hf).count
  obtain ⟨D, hD⟩ : ∃ D, D = fdsB f.folds := ⟨_, rfl⟩
  have hDl : D.length = f.folds.length := by rw [hD]; unfold fdsB; simp
  have hback : bytesF D = f.folds := by rw [hD]; exact (fine_of he hm hf).back
  have hD1 : 1 ≤ D.length := by rw [hDl]; exact (fine_of he hm hf).len1
  have hD4 : D.length ≤ 4 := by rw [hDl]; exact (fine_of he hm hf).len4
  have hcr : colsF D ≤ 16 ∧ rowsF D ≤ 16 := by
    have h1 := pows_all D (allFolds_mem hD1 hD4)
    simp only [pows, List.mem_cons, List.not_mem_nil, or_false] at h1
    omega
  have HTX := Lib.hid (fun W => refTimesX hD1 hD4 W)
  have HTY := Lib.hid (fun W => refTimesY hD1 hD4 W)
  rw [hback] at HTX HTY
  rw [← hD]
  obtain ⟨CO, hCO⟩ : ∃ c, c = colsF D := ⟨_, rfl⟩
  obtain ⟨RO, hRO⟩ : ∃ c, c = rowsF D := ⟨_, rfl⟩
  rw [← hCO, ← hRO] at hcr
  rw [← hCO, ← hRO]
  rw [← hCO] at HTX
  rw [← hRO] at HTY
  obtain ⟨ls, hls⟩ : ∃ ls, ls = leavesW m f := ⟨_, rfl⟩
  rw [← hls] at hcnt ⊢
  obtain ⟨N, hN⟩ : ∃ N, N = ls.length := ⟨_, rfl⟩
  rw [← hN] at hcnt
  rw [formeR_is]
  have HN := Lib.hid hN
  have HLS := Lib.hid hls
  obtain ⟨hc1, hc2⟩ := hcnt
  obtain ⟨hcr1, hcr2⟩ := hcr
  clear hN hls hsh hCO hRO hD hDl hback
  have HP := Lib.hid hp
  have HE := Lib.hid he
  have HM := Lib.hid hm
  have HF0 := Lib.hid hf
  have FN := Lib.hid (fine_of he hm hf)
  have HW0 : Hid (wayErr p m = 0) := Lib.hid (by unfold wayErr; rw [if_pos he]; exact hm)
  obtain ⟨hfm0, hfm1, -, -⟩ := fine_at he hm
  obtain ⟨fv, pv, rfl, ⟨a, cap, rfl, hfc⟩, ⟨a2, cap2, rfl, -⟩, -⟩ := hp
  obtain ⟨n1, hn1⟩ : ∃ n, n = p.fmts.length := ⟨_, rfl⟩
  obtain ⟨n2, hn2⟩ : ∃ n, n = p.pprs.length := ⟨_, rfl⟩
  obtain ⟨b', off, rfl, hb', hc⟩ := hfc (fun h => by rw [h] at hf; simp at hf)
  have q1 : w.cell? ⟨b', off + m.fmt.toNat * 2 + 1, none⟩ = some (S f.folds) := by have := hc _ f hf 1 _ rfl; simpa using this
  rw [← hn1] at hfm1
  rw [← hn1, ← hn2] at HP ⊢
  have hs1 := FN.out.sh1
  have hs4 := FN.out.sh4
  have HQ1 := Lib.hid q1
  clear hn1 hn2 hc hf he hm hfc q1
  go_enter Tryz.func18, Tryz.ntmps18
  go_wp2_with fail
  refine (refMake3_any p m _ _ (HP.out.later (by exact (by repeat (first | exact Below.refl _ _ | assumption | (refine Below.alloc ?_ ?_ _; rotate_left; · (first | omega | (simp; done) | (simp; omega) | fail)) | (refine Below.setCell ?_ ?_ _; rotate_left; · (first | omega | (simp; done) | (simp; omega) | fail)) | refine Below.drew ?_ | fail))))).mono ?_
  rintro e w2 ⟨rfl, hb⟩
  rw [HW0.out]
  have hb0 : Below w.heap.size w w2 := Below.trans (by exact (by repeat (first | exact Below.refl _ _ | assumption | (refine Below.alloc ?_ ?_ _; rotate_left; · (first | omega | (simp; done) | (simp; omega) | fail)) | (refine Below.setCell ?_ ?_ _; rotate_left; · (first | omega | (simp; done) | (simp; omega) | fail)) | refine Below.drew ?_ | fail))) (hb.mono (by simp; try omega))
  have hx1 : w2.heap[w.heap.size]? = some (.cells #[.slice (some ⟨b', off, none⟩) n1 cap, .slice a2 n2 cap2, .int .i64 p.trim, .int .i64 p.sheets] 25 (0, 0)) := blk_later hb (by exact (by repeat (first | exact heap_alloc_at _ _ _ (by (first | omega | (simp; done) | (simp; omega) | (simp at *; omega) | fail)) | assumption | rw [heap_alloc_past _ _ _ (by (first | omega | (simp; done) | (simp; omega) | (simp at *; omega) | fail))] | rw [heap_setCell_past _ _ _ _ (by (first | omega | (simp; done) | (simp; omega) | (simp at *; omega) | fail))] | fail)))
  have hx2 : w2.heap[w.heap.size + 1]? = some (.cells #[.int .i64 m.fmt, .int .i64 m.ppr, .int .i64 m.sheets, .bool m.half] 38 (0, 0)) := blk_later hb (by exact (by repeat (first | exact heap_alloc_at _ _ _ (by (first | omega | (simp; done) | (simp; omega) | (simp at *; omega) | fail)) | assumption | rw [heap_alloc_past _ _ _ (by (first | omega | (simp; done) | (simp; omega) | (simp at *; omega) | fail))] | rw [heap_setCell_past _ _ _ _ (by (first | omega | (simp; done) | (simp; omega) | (simp at *; omega) | fail))] | fail)))
  have HX1 := Lib.hid hx1
  have HX2 := Lib.hid hx2
  have HB0 := Lib.hid hb0
  have hz2 := hb0.size
  clear hb hb0 hx1 hx2
  have c0 := blk_cell (HX1.out) 0
  have c1 := blk_cell (HX1.out) 1
  have c2 := blk_cell (HX1.out) 2
  have c3 := blk_cell (HX1.out) 3
  have d0 := blk_cell (HX2.out) 0
  have d1 := blk_cell (HX2.out) 1
  have d2 := blk_cell (HX2.out) 2
  have d3 := blk_cell (HX2.out) 3
  go_wp2_with fail
  refine (in2_is sh 0 (m.sheets - 1) true HSH.out _).mono ?_
  rintro e w3 ⟨rfl, hb⟩
  have HB3 := Lib.hid (HB0.out.trans (hb.mono HB0.out.size))
  have HX13 := Lib.hid (blk_later hb HX1.out)
  have HX23 := Lib.hid (blk_later hb HX2.out)
  have q1 := cell_later' HB3.out HQ1.out
  clear hb c0 c1 c2 c3 d0 d1 d2 d3 HX1 HX2 HB0
  have c0 := blk_cell (HX13.out) 0
  have c1 := blk_cell (HX13.out) 1
  have c2 := blk_cell (HX13.out) 2
  have c3 := blk_cell (HX13.out) 3
  have d0 := blk_cell (HX23.out) 0
  have d1 := blk_cell (HX23.out) 1
  have d2 := blk_cell (HX23.out) 2
  have d3 := blk_cell (HX23.out) 3
  go_wp2_with fail
  refine (refAll2_any p m f _ _ (HP.out.later HB3.out) HE.out HM.out HF0.out).mono ?_
  rintro e w4 ⟨⟨v', g, rfl, hl, hg⟩, hb⟩
  rw [← HLS.out] at hl
  have HL := Lib.hid hl
  have HB4 := Lib.hid (HB3.out.trans (hb.mono HB3.out.size))
  obtain ⟨k7, rest, rfl, -⟩ := hl
  rw [← HN.out] at HL ⊢
  clear c0 c1 c2 c3 d0 d1 d2 d3 hb hg HX13 HX23 q1 HB3
  obtain ⟨w3, hw3⟩ : ∃ w3, w3 = w4 := ⟨_, rfl⟩
  subst hw3
  obtain ⟨ei, hi1, hi2, hi3, hi4⟩ := elemInt
  have HI := Lib.hid (And.intro hi1 (And.intro hi2 (And.intro hi3 hi4)))
  clear hi1 hi2 hi3 hi4
  go_wp2_with fail
  go_loopw [13, 14] (fun v i wr => ∃ (r : Nat), r ≤ RO ∧ i = .int .i64 r ∧ Hid (wr.ownsRow w3.heap.size 3 1 v (fA ls sh inner CO r).length (intZs (fA ls sh inner CO r))) ∧ Hid (Below w3.heap.size w3 wr)) (fun _ i _ => RO - (intOf i).toNat)
  case atStart => exact ⟨0, by omega, rfl, World.ownsRow_nil _ _ _ _, Below.refl _ _⟩
  case round =>
    obtain ⟨r, hr, rfl, HR, HB⟩ := hrel
    go_wp2_with fail
    refine (HTY.out _).mono ?_
    rintro e w5 ⟨rfl, hb⟩
    have HR5 := Lib.hid (row_later HR.out hb)
    have HB5 := Lib.hid (HB.out.trans (hb.mono HB.out.size))
    clear hb HR HB
    by_cases hlt : r < RO
    · go_wp2_with fail
      go_loopw [13, 15] (fun v i wr => ∃ (c : Nat), c ≤ CO ∧ i = .int .i64 c ∧ Hid (wr.ownsRow w3.heap.size 3 1 v (fA ls sh inner CO r ++ fB ls sh inner r c).length (intZs (fA ls sh inner CO r ++ fB ls sh inner r c))) ∧ Hid (Below w3.heap.size w3 wr)) (fun _ i _ => CO - (intOf i).toNat)
      case atStart => exact ⟨0, by omega, rfl, (by have h := HR5.out; show World.ownsRow _ _ _ _ _ _ _; simpa [fB] using h), HB5⟩
      case round =>
        clear HR5 HB5
        obtain ⟨c, hc, rfl, HR, HB⟩ := hrel
        go_wp2_with fail
        refine (HTX.out _).mono ?_
        rintro e w5 ⟨rfl, hb⟩
        have HR5 := Lib.hid (row_later HR.out hb)
        have HB5 := Lib.hid (HB.out.trans (hb.mono HB.out.size))
        clear hb HR HB
        by_cases hlc : c < CO
        · have hl1 := fA_len ls sh inner CO r hcr1
          have hl2 := fB_len ls sh inner r c
          have hxl : (fA ls sh inner CO r ++ fB ls sh inner r c).length ≤ 1000 := by rw [List.length_append]; omega
          clear hl1 hl2
          go_wp2_with fail
          refine (refAt_any ls _ g sh c r _ (HL.out.later HB5.out) (by rw [← HN.out]; omega)).mono ?_
          rintro e w4 ⟨rfl, hw4⟩
          obtain rfl := hw4.symm
          have HR := HR5
          have HB := HB5
          clear hw4 HR5 HB5
          cases hat : atF ls sh c r with
          | none =>
            have e1 : atI ls sh c r = -1 := by unfold atI; rw [hat]
            have HSP : Hid (fB ls sh inner r (c + 1) = fB ls sh inner r c) := Lib.hid (by rw [fB_succ]; unfold spotF; rw [hat]; exact List.append_nil _)
            rw [e1]
            clear e1 hat
            go_wp2_with fail
            go_roundw
            case rel => exact ⟨c + 1, by omega, by go_num, (by show World.ownsRow _ _ _ _ _ _ _; rw [HSP.out]; exact HR.out), HB⟩
            case measure => simp [intOf]; omega
          | some k =>
            have e1 : atI ls sh c r = (k : Int) := by unfold atI; rw [hat]
            have hkl := at_lt hat
            obtain ⟨x, hx⟩ : ∃ x, ls[k]? = some x := ⟨_, List.getElem?_eq_getElem hkl⟩
            have hsp := spot_some inner hat hx
            rw [← HN.out] at hkl
            obtain ⟨-, -, -, x3, x4⟩ := leaf_cells (HL.out.later HB.out) hx
            rw [e1]
            clear e1 hat hx
            obtain ⟨xi, hxi⟩ : ∃ b, b = x.inner := ⟨_, rfl⟩
            obtain ⟨xt, hxt⟩ : ∃ b, b = x.turned := ⟨_, rfl⟩
            rw [← hxi] at x3
            rw [← hxt] at x4
            unfold pageF at hsp
            rw [← hxi, ← hxt] at hsp
            obtain ⟨nb, hnb⟩ : ∃ b, b = (xi != inner) := ⟨_, rfl⟩
            have e2 : (!(xi == inner)) = nb := hnb.symm
            rw [← hnb] at hsp
            clear hxi hxt hnb
            cases nb with
            | true =>
              cases xt with
              | true =>
                have HSP : Hid (spotF ls sh c r inner = some (-(2 * (k : Int) + 1 + 1))) := Lib.hid (by rw [hsp]; rfl)
                clear hsp
                have HS2 : Hid (fB ls sh inner r (c + 1) = fB ls sh inner r c ++ [(-(2 * (k : Int) + 1 + 1))]) := Lib.hid (by rw [fB_succ, HSP.out]; rfl)
                obtain ⟨hi1, hi2, hi3, hi4⟩ := HI.out
                have hzr := HB.out.size
                go_wp2_with (at_builtin; go_must (refine wpList_append_own _ rfl _ _ 39 rfl w3.heap.size 3 ei _ 1 8 undInts hi1 hi2 hi3 hi4 rfl (by decide) u13 (fA ls sh inner CO r ++ fB ls sh inner r c).length (intZs (fA ls sh inner CO r ++ fB ls sh inner r c)) rfl (HR.out.alloc _) ⟨w5.heap.size, 0, none⟩ 1 1 [.int .i64 ((-(2 * (k : Int) + 1 + 1)))] rfl rfl ?a1 ?b1 ?c1 ?d1 ?e1 ?f1))
                case a1 =>
                  intro j u hju
                  rw [add_offi]
                  unfold World.cell?
                  rw [World.alloc_heap_new]
                  simpa using hju
                case b1 => simp [Value.oneCell']
                case c1 => simp only [maxLen]; omega
                case d1 => omega
                case e1 => (first | omega | (simp; omega))
                case f1 =>
                  rintro v' w7 hown hgrow -
                  have HB7 := Lib.hid (HB.out.trans ((((Below.refl _ w5).alloc (Nat.le_refl _) (.cells #[.int .i64 ((-(2 * (k : Int) + 1 + 1)))] 3)).mono hzr).trans (below_row (HR.out.alloc _) (by simp; omega) hgrow)))
                  have HO : Hid (w7.ownsRow w3.heap.size 3 1 v' (fA ls sh inner CO r ++ fB ls sh inner r (c + 1)).length (intZs (fA ls sh inner CO r ++ fB ls sh inner r (c + 1)))) := Lib.hid (by
                    rw [HS2.out, ← List.append_assoc, List.length_append, List.length_append]
                    have h := hown
                    unfold intZs at h ⊢
                    rw [List.map_append]
                    exact h)
                  clear hgrow hown hi1 hi2 hi3 hi4
                  go_wp2_with fail
                  go_roundw
                  case rel => exact ⟨c + 1, by omega, by go_num, HO, HB7⟩
                  case measure => simp [intOf]; omega
              | false =>
                have HSP : Hid (spotF ls sh c r inner = some (2 * (k : Int) + 1 + 1)) := Lib.hid (by rw [hsp]; rfl)
                clear hsp
                have HS2 : Hid (fB ls sh inner r (c + 1) = fB ls sh inner r c ++ [(2 * (k : Int) + 1 + 1)]) := Lib.hid (by rw [fB_succ, HSP.out]; rfl)
                obtain ⟨hi1, hi2, hi3, hi4⟩ := HI.out
                have hzr := HB.out.size
                go_wp2_with (at_builtin; go_must (refine wpList_append_own _ rfl _ _ 39 rfl w3.heap.size 3 ei _ 1 8 undInts hi1 hi2 hi3 hi4 rfl (by decide) u13 (fA ls sh inner CO r ++ fB ls sh inner r c).length (intZs (fA ls sh inner CO r ++ fB ls sh inner r c)) rfl (HR.out.alloc _) ⟨w5.heap.size, 0, none⟩ 1 1 [.int .i64 ((2 * (k : Int) + 1 + 1))] rfl rfl ?a2 ?b2 ?c2 ?d2 ?e2 ?f2))
                case a2 =>
                  intro j u hju
                  rw [add_offi]
                  unfold World.cell?
                  rw [World.alloc_heap_new]
                  simpa using hju
                case b2 => simp [Value.oneCell']
                case c2 => simp only [maxLen]; omega
                case d2 => omega
                case e2 => (first | omega | (simp; omega))
                case f2 =>
                  rintro v' w7 hown hgrow -
                  have HB7 := Lib.hid (HB.out.trans ((((Below.refl _ w5).alloc (Nat.le_refl _) (.cells #[.int .i64 ((2 * (k : Int) + 1 + 1))] 3)).mono hzr).trans (below_row (HR.out.alloc _) (by simp; omega) hgrow)))
                  have HO : Hid (w7.ownsRow w3.heap.size 3 1 v' (fA ls sh inner CO r ++ fB ls sh inner r (c + 1)).length (intZs (fA ls sh inner CO r ++ fB ls sh inner r (c + 1)))) := Lib.hid (by
                    rw [HS2.out, ← List.append_assoc, List.length_append, List.length_append]
                    have h := hown
                    unfold intZs at h ⊢
                    rw [List.map_append]
                    exact h)
                  clear hgrow hown hi1 hi2 hi3 hi4
                  go_wp2_with fail
                  go_roundw
                  case rel => exact ⟨c + 1, by omega, by go_num, HO, HB7⟩
                  case measure => simp [intOf]; omega
            | false =>
              cases xt with
              | true =>
                have HSP : Hid (spotF ls sh c r inner = some (-(2 * (k : Int) + 1))) := Lib.hid (by rw [hsp]; simp)
                clear hsp
                have HS2 : Hid (fB ls sh inner r (c + 1) = fB ls sh inner r c ++ [(-(2 * (k : Int) + 1))]) := Lib.hid (by rw [fB_succ, HSP.out]; rfl)
                obtain ⟨hi1, hi2, hi3, hi4⟩ := HI.out
                have hzr := HB.out.size
                go_wp2_with (at_builtin; go_must (refine wpList_append_own _ rfl _ _ 39 rfl w3.heap.size 3 ei _ 1 8 undInts hi1 hi2 hi3 hi4 rfl (by decide) u13 (fA ls sh inner CO r ++ fB ls sh inner r c).length (intZs (fA ls sh inner CO r ++ fB ls sh inner r c)) rfl (HR.out.alloc _) ⟨w5.heap.size, 0, none⟩ 1 1 [.int .i64 ((-(2 * (k : Int) + 1)))] rfl rfl ?a3 ?b3 ?c3 ?d3 ?e3 ?f3))
                case a3 =>
                  intro j u hju
                  rw [add_offi]
                  unfold World.cell?
                  rw [World.alloc_heap_new]
                  simpa using hju
                case b3 => simp [Value.oneCell']
                case c3 => simp only [maxLen]; omega
                case d3 => omega
                case e3 => (first | omega | (simp; omega))
                case f3 =>
                  rintro v' w7 hown hgrow -
                  have HB7 := Lib.hid (HB.out.trans ((((Below.refl _ w5).alloc (Nat.le_refl _) (.cells #[.int .i64 ((-(2 * (k : Int) + 1)))] 3)).mono hzr).trans (below_row (HR.out.alloc _) (by simp; omega) hgrow)))
                  have HO : Hid (w7.ownsRow w3.heap.size 3 1 v' (fA ls sh inner CO r ++ fB ls sh inner r (c + 1)).length (intZs (fA ls sh inner CO r ++ fB ls sh inner r (c + 1)))) := Lib.hid (by
                    rw [HS2.out, ← List.append_assoc, List.length_append, List.length_append]
                    have h := hown
                    unfold intZs at h ⊢
                    rw [List.map_append]
                    exact h)
                  clear hgrow hown hi1 hi2 hi3 hi4
                  go_wp2_with fail
                  go_roundw
                  case rel => exact ⟨c + 1, by omega, by go_num, HO, HB7⟩
                  case measure => simp [intOf]; omega
              | false =>
                have HSP : Hid (spotF ls sh c r inner = some (2 * (k : Int) + 1)) := Lib.hid (by rw [hsp]; simp)
                clear hsp
                have HS2 : Hid (fB ls sh inner r (c + 1) = fB ls sh inner r c ++ [(2 * (k : Int) + 1)]) := Lib.hid (by rw [fB_succ, HSP.out]; rfl)
                obtain ⟨hi1, hi2, hi3, hi4⟩ := HI.out
                have hzr := HB.out.size
                go_wp2_with (at_builtin; go_must (refine wpList_append_own _ rfl _ _ 39 rfl w3.heap.size 3 ei _ 1 8 undInts hi1 hi2 hi3 hi4 rfl (by decide) u13 (fA ls sh inner CO r ++ fB ls sh inner r c).length (intZs (fA ls sh inner CO r ++ fB ls sh inner r c)) rfl (HR.out.alloc _) ⟨w5.heap.size, 0, none⟩ 1 1 [.int .i64 ((2 * (k : Int) + 1))] rfl rfl ?a4 ?b4 ?c4 ?d4 ?e4 ?f4))
                case a4 =>
                  intro j u hju
                  rw [add_offi]
                  unfold World.cell?
                  rw [World.alloc_heap_new]
                  simpa using hju
                case b4 => simp [Value.oneCell']
                case c4 => simp only [maxLen]; omega
                case d4 => omega
                case e4 => (first | omega | (simp; omega))
                case f4 =>
                  rintro v' w7 hown hgrow -
                  have HB7 := Lib.hid (HB.out.trans ((((Below.refl _ w5).alloc (Nat.le_refl _) (.cells #[.int .i64 ((2 * (k : Int) + 1))] 3)).mono hzr).trans (below_row (HR.out.alloc _) (by simp; omega) hgrow)))
                  have HO : Hid (w7.ownsRow w3.heap.size 3 1 v' (fA ls sh inner CO r ++ fB ls sh inner r (c + 1)).length (intZs (fA ls sh inner CO r ++ fB ls sh inner r (c + 1)))) := Lib.hid (by
                    rw [HS2.out, ← List.append_assoc, List.length_append, List.length_append]
                    have h := hown
                    unfold intZs at h ⊢
                    rw [List.map_append]
                    exact h)
                  clear hgrow hown hi1 hi2 hi3 hi4
                  go_wp2_with fail
                  go_roundw
                  case rel => exact ⟨c + 1, by omega, by go_num, HO, HB7⟩
                  case measure => simp [intOf]; omega
        · obtain rfl : c = CO := by omega
          go_wp2_with fail
          go_roundw
          case rel => exact ⟨r + 1, by omega, by go_num, (by show World.ownsRow _ _ _ _ _ _ _; rw [fA_succ]; exact HR5.out), HB5⟩
          case measure => simp [intOf]; omega
    · obtain rfl : r = RO := by omega
      go_wp2_with fail
      go_ret2
      exact ⟨⟨_, rfl, row_mono HR5.out HB4.out.size⟩, HB4.out.trans (HB5.out.mono HB4.out.size)⟩
end Go.Proofs.YtielaaaeecfkoaaGreatDoor
