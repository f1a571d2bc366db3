/- The parts Lk, Ax of the proof, joined. It holds without conditions of its own. -/
import Derived.Test.YtajjhmmmifenaaaGreatDoorOM29
import Derived.Test.YtajjhmmmifenaaaGreatDoorOM30
import Derived.Test.YtajjhmmmifenaaaGreatDoorOM15
/- The reference's Before; what leaves are like, for QuireOrder. -/
namespace Go.Proofs.YtajjhmmmifenaaaGreatDoor
set_option linter.unusedSimpArgs false
set_option linter.unusedVariables false
open Go Go.RowKit Go.Sort Go.BigFrame Go.Shelf
attribute [local go_sem] Oper.semAt_some putAll

def beforeF : List Int → List Int → Bool
  | x :: xs, y :: ys => if x = y then beforeF xs ys else decide (x < y)
  | xs, ys => decide (xs.length < ys.length)
theorem before_step {xs ys : List Int} {k : Nat} {x : Int} (hx : xs[k]? = some x) (hy : ys[k]? = some x) : beforeF (xs.drop k) (ys.drop k) = beforeF (xs.drop (k + 1)) (ys.drop (k + 1)) := by
  obtain ⟨h1, h1'⟩ := List.getElem?_eq_some_iff.1 hx
  obtain ⟨h2, h2'⟩ := List.getElem?_eq_some_iff.1 hy
  rw [List.drop_eq_getElem_cons h1, List.drop_eq_getElem_cons h2, h1', h2', beforeF, if_pos rfl]
theorem before_stop {xs ys : List Int} {k : Nat} {x y : Int} (hx : xs[k]? = some x) (hy : ys[k]? = some y) (h : x ≠ y) : beforeF (xs.drop k) (ys.drop k) = decide (x < y) := by
  obtain ⟨h1, h1'⟩ := List.getElem?_eq_some_iff.1 hx
  obtain ⟨h2, h2'⟩ := List.getElem?_eq_some_iff.1 hy
  rw [List.drop_eq_getElem_cons h1, List.drop_eq_getElem_cons h2, h1', h2', beforeF, if_neg h]
theorem before_end {xs ys : List Int} {k : Nat} (hk : k ≤ xs.length) (hk2 : k ≤ ys.length) (h : k = xs.length ∨ k = ys.length) : beforeF (xs.drop k) (ys.drop k) = decide (xs.length < ys.length) := by
  have e : ∀ us bs : List Int, us = [] ∨ bs = [] → beforeF us bs = decide (us.length < bs.length) := by
    intro us bs h
    rcases h with rfl | rfl
    · cases bs <;> rfl
    · cases us <;> rfl
  rw [e _ _ (by rcases h with h | h <;> simp [h]), List.length_drop, List.length_drop]
  apply decide_eq_decide.2
  omega

set_option maxRecDepth 100000 in
set_option maxHeartbeats 800000 in
theorem refBefore_any (xs ys : List Int) (v u : Value) (w : World) (hv : IntsAt w v xs) (hu : IntsAt w u ys) (hl : xs.length < 1000000) (hl2 : ys.length < 1000000) :
    Calls Tryz.prog 36 #[v, u] w fun e w' => e = .returned (.bool (beforeF xs ys)) ∧ Below w.heap.size w w' := by
  have HX := Lib.hid hv
  have HY := Lib.hid hu
  obtain ⟨ax, capx, rfl, -⟩ := hv
  obtain ⟨ay, capy, rfl, -⟩ := hu
  have HB := Lib.hid (Below.refl w.heap.size w)
  obtain ⟨n, hn⟩ : ∃ n, n = xs.length := ⟨_, rfl⟩
  obtain ⟨m, hm⟩ : ∃ m, m = ys.length := ⟨_, rfl⟩
  rw [← hn] at hl HX
  rw [← hm] at hl2 HY
  rw [← hn, ← hm]
  have HN := Lib.hid hn
  have HM := Lib.hid hm
  clear hn hm
  go_enter Tryz.func36, Tryz.ntmps36
  go_wp2_with fail
  go_loopw [5] (fun i wr => ∃ (k q : Nat), k ≤ n ∧ k ≤ m ∧ i = .int .i64 k ∧ wr = w.drewN q ∧ Hid (beforeF xs ys = beforeF (xs.drop k) (ys.drop k))) (fun i _ => n - (intOf i).toNat)
  case atStart => exact ⟨0, 0, by omega, by omega, rfl, rfl, rfl⟩
  case round =>
    obtain ⟨k, q, hk, hkm, rfl, rfl, hT⟩ := hrel
    by_cases hlt : k < n
    · by_cases hlt2 : k < m
      · obtain ⟨x, hx⟩ : ∃ x, xs[k]? = some x := ⟨_, List.getElem?_eq_getElem (by have := HN.out; omega)⟩
        obtain ⟨y, hy⟩ : ∃ y, ys[k]? = some y := ⟨_, List.getElem?_eq_getElem (by have := HM.out; omega)⟩
        obtain ⟨gx, rfl, -, x0⟩ := HX.out.get hx
        obtain ⟨gy, rfl, -, y0⟩ := HY.out.get hy
        have HXX := Lib.hid hx
        have HYY := Lib.hid hy
        clear hx hy
        have d1 : ((k : Int) < n) := by omega
        have d2 : ((k : Int) < m) := by omega
        by_cases e : x = y
        · subst e
          have HT := Lib.hid (hT.out.trans (before_step HXX.out HYY.out))
          clear hT HXX HYY
          go_wp2_with fail
          go_quiet (fail)
          go_wp2_with fail
          go_roundw
          case rel => exact ⟨k + 1, _, by omega, by omega, by go_num, rfl, HT.out⟩
          case measure => simp [intOf]; omega
        · have HT := Lib.hid (hT.out.trans (before_stop HXX.out HYY.out e))
          clear hT HXX HYY
          have e1 : (x != y) = true := by simp [e]
          go_wp2_with fail
          go_quiet (fail)
          go_wp2_with fail
          go_quiet (fail)
          go_wp2_with fail
          go_ret
          exact ⟨by rw [HT.out]; rfl, bdrewN (bdrewN (bdrewN HB.out _) _) _⟩
      · have HT := Lib.hid (hT.out.trans (before_end (by have := HN.out; omega) (by have := HM.out; omega) (Or.inr (by have := HM.out; omega))))
        have e2 : decide ((n : Int) < (m : Int)) = decide (xs.length < ys.length) := by
          apply decide_eq_decide.2
          have := HN.out
          have := HM.out
          omega
        have HE := Lib.hid (HT.out.trans e2.symm)
        clear hT HT e2
        go_wp2_with fail
        go_ret
        exact ⟨by rw [HE.out]; first | rfl | simp, bdrewN HB.out _⟩
    · have HT := Lib.hid (hT.out.trans (before_end (by have := HN.out; omega) (by have := HM.out; omega) (Or.inl (by have := HN.out; omega))))
      have e2 : decide ((n : Int) < (m : Int)) = decide (xs.length < ys.length) := by
        apply decide_eq_decide.2
        have := HN.out
        have := HM.out
        omega
      have HE := Lib.hid (HT.out.trans e2.symm)
      clear hT HT e2
      go_wp2_with fail
      go_ret
      exact ⟨by rw [HE.out]; first | rfl | simp, bdrewN HB.out _⟩

theorem before_lt {x y : Lf} (h : ltL x y) : beforeF [(x.gat : Int), x.num, x.plus] [(y.gat : Int), y.num, y.plus] = true := by
  unfold ltL at h
  simp only [beforeF]
  split
  · split
    · split
      · omega
      · exact decide_eq_true (by omega)
    · exact decide_eq_true (by omega)
  · exact decide_eq_true (by omega)
theorem lf_kinds {b : Bk} {x : Lf} (h : x ∈ lvs b) : (x.kind = 2 ∧ 0 < x.plus) ∨ (x.kind ≠ 2 ∧ x.plus = 0 ∧ x.num ≠ 0) := by
  obtain ⟨g, _, hm⟩ := lvs_mem h
  simp only [lvsG, List.mem_flatMap] at hm
  obtain ⟨k, _, hm⟩ := hm
  simp only [lvsNum, List.mem_append, List.mem_map] at hm
  rcases hm with hm | ⟨j, _, hm⟩
  · split at hm
    · rw [List.mem_singleton] at hm
      have h1 := congrArg Lf.num hm
      have h2 := congrArg Lf.plus hm
      have h3 := congrArg Lf.kind hm
      dsimp only at h1 h2 h3
      refine Or.inr ⟨?_, h2, by omega⟩
      rw [h3]
      split <;> omega
    · cases hm
  · have h2 := congrArg Lf.plus hm
    have h3 := congrArg Lf.kind hm
    dsimp only at h2 h3
    exact Or.inl ⟨h3.symm, by omega⟩
theorem sumC_take {cs : List Chg} {k : Nat} {c : Chg} (h : cs[k]? = some c) : sumC (cs.take (k + 1)) = sumC (cs.take k) + addF c := by
  rw [List.take_add_one, h]
  simp [sumC]
theorem sumG_take {gs : List Gth} {k : Nat} {g : Gth} (h : gs[k]? = some g) : sumG (gs.take (k + 1)) = sumG (gs.take k) + (g.leaves + sumC g.chs) := by
  rw [List.take_add_one, h]
  simp [sumG]
theorem sumC_bound : ∀ {cs : List Chg}, (∀ c ∈ cs, 0 ≤ c.many ∧ c.many ≤ 4) → -(cs.length : Int) ≤ sumC cs ∧ sumC cs ≤ 4 * cs.length
  | [], _ => by simp [sumC]
  | c :: cs, h => by
    have h1 := sumC_bound (cs := cs) fun x hx => h x (by simp [hx])
    have h2 := h c (by simp)
    have e : sumC (c :: cs) = addF c + sumC cs := by simp [sumC]
    rw [e, List.length_cons]
    unfold addF
    split <;> omega
theorem sumG_bound : ∀ {gs : List Gth}, (∀ g ∈ gs, GOk g) → -(100 * (gs.length : Int)) ≤ sumG gs ∧ sumG gs ≤ 100 * gs.length
  | [], _ => by simp [sumG]
  | g :: gs, h => by
    have h1 := sumG_bound (gs := gs) fun x hx => h x (by simp [hx])
    have hg := h g (by simp)
    have h2 := hg.leaves
    have h3 := hg.few
    have h4 := sumC_bound (cs := g.chs) fun c hc => ⟨(hg.ch hc).2.2.2.1, (hg.ch hc).2.2.2.2⟩
    have e : sumG (g :: gs) = (g.leaves + sumC g.chs) + sumG gs := by simp [sumG]
    rw [e, List.length_cons]
    omega
end Go.Proofs.YtajjhmmmifenaaaGreatDoor

/- The book of the examples, as plain Lean and in memory. -/
namespace Go.Proofs.YtajjhmmmifenaaaGreatDoor
set_option linter.unusedSimpArgs false
set_option linter.unusedVariables false
open Go Go.RowKit Go.Sort Go.BigFrame

/-- The changes of the examples' gathering D. -/
def exChs (k : Nat) : List Chg := [⟨1, 3, 0⟩, ⟨2, 5, 0⟩, ⟨3, 8, 1⟩].take (3 - k)
/-- The book of the examples, and the same without the last k changes. -/
def exBook (k : Nat) : Bk := ⟨4, [⟨1, 23, 2, []⟩, ⟨1, 0, 8, []⟩, ⟨1, 1, 8, []⟩, ⟨1, 2, 8, []⟩, ⟨1, 3, 8, exChs k⟩, ⟨1, 24, 1, []⟩]⟩

/-- The cells of the gatherings. -/
def exCells (sv : Value) : Array Value :=
  #[.int .i64 1, .int .i64 23, .int .i64 2, .slice none 0 0, .int .i64 1, .int .i64 0, .int .i64 8, .slice none 0 0, .int .i64 1, .int .i64 1, .int .i64 8, .slice none 0 0,
    .int .i64 1, .int .i64 2, .int .i64 8, .slice none 0 0, .int .i64 1, .int .i64 3, .int .i64 8, sv, .int .i64 1, .int .i64 24, .int .i64 1, .slice none 0 0]
def exChCells : Array Value := #[.int .i64 1, .int .i64 3, .int .i64 0, .int .i64 2, .int .i64 5, .int .i64 0, .int .i64 3, .int .i64 8, .int .i64 1]

theorem exChs_nil {B : Nat} {w : World} : ChsAt B w (.slice none 0 0) [] := ⟨none, 0, rfl, fun h => absurd rfl h⟩
theorem exChs_at {w : World} {C k : Nat} (hk : k ≤ 1) {e : TypeId} (h : w.heap[C]? = some (.cells exChCells e)) (hC : C < w.heap.size) :
    ChsAt w.heap.size w (.slice (some ⟨C, 0, none⟩) (3 - k) 3) (exChs k) := by
  refine ⟨some ⟨C, 0, none⟩, 3, by obtain rfl | rfl : k = 0 ∨ k = 1 := by omega
                                   all_goals rfl, fun _ => ⟨C, 0, rfl, hC, fun i c hc => ?_⟩⟩
  have hh : ∀ j v, exChCells[j]? = some v → w.cell? ⟨C, j, none⟩ = some v := fun j v hv => by simp [World.cell?, h, hv]
  obtain rfl | rfl : k = 0 ∨ k = 1 := by omega
  · rcases i with _ | _ | _ | i
    · cases hc; exact ⟨hh _ _ rfl, hh _ _ rfl, hh _ _ rfl⟩
    · cases hc; exact ⟨hh _ _ rfl, hh _ _ rfl, hh _ _ rfl⟩
    · cases hc; exact ⟨hh _ _ rfl, hh _ _ rfl, hh _ _ rfl⟩
    · simp [exChs] at hc
  · rcases i with _ | _ | i
    · cases hc; exact ⟨hh _ _ rfl, hh _ _ rfl, hh _ _ rfl⟩
    · cases hc; exact ⟨hh _ _ rfl, hh _ _ rfl, hh _ _ rfl⟩
    · simp [exChs] at hc

theorem exBook_at {w : World} {C G k : Nat} (hk : k ≤ 1) {e f : TypeId} (h : w.heap[C]? = some (.cells exChCells e)) (hC : C < w.heap.size)
    (hg : w.heap[G]? = some (.cells (exCells (.slice (some ⟨C, 0, none⟩) (3 - k) 3)) f)) (hG : G < w.heap.size) :
    BookAt w.heap.size w (.agg #[.int .i64 4, .slice (some ⟨G, 0, none⟩) 6 6]) (exBook k) := by
  refine ⟨_, rfl, some ⟨G, 0, none⟩, 6, rfl, fun _ => ⟨G, 0, rfl, hG, fun i g hi => ?_⟩⟩
  have hh : ∀ j v, (exCells (.slice (some ⟨C, 0, none⟩) (3 - k) 3))[j]? = some v → w.cell? ⟨G, j, none⟩ = some v := fun j v hv => by simp [World.cell?, hg, hv]
  rcases i with _ | _ | _ | _ | _ | _ | i
  · cases hi; exact ⟨_, exChs_nil, hh _ _ rfl, hh _ _ rfl, hh _ _ rfl, hh _ _ rfl⟩
  · cases hi; exact ⟨_, exChs_nil, hh _ _ rfl, hh _ _ rfl, hh _ _ rfl, hh _ _ rfl⟩
  · cases hi; exact ⟨_, exChs_nil, hh _ _ rfl, hh _ _ rfl, hh _ _ rfl, hh _ _ rfl⟩
  · cases hi; exact ⟨_, exChs_nil, hh _ _ rfl, hh _ _ rfl, hh _ _ rfl, hh _ _ rfl⟩
  · cases hi; exact ⟨_, exChs_at hk h hC, hh _ _ rfl, hh _ _ rfl, hh _ _ rfl, hh _ _ rfl⟩
  · cases hi; exact ⟨_, exChs_nil, hh _ _ rfl, hh _ _ rfl, hh _ _ rfl, hh _ _ rfl⟩
  · simp [exBook] at hi

end Go.Proofs.YtajjhmmmifenaaaGreatDoor
