/- The parts Qn, Ap, Qo of the proof, joined. It holds without conditions of its own. -/
import Derived.Test.YtimdmgkegdlafaaGreatDoorCH11
import Derived.OwnWalkIn
import Derived.RangeFuncBox
/- The leaf with a number. -/
namespace Go.Proofs.YtimdmgkegdlafaaGreatDoor
set_option linter.unusedSimpArgs false
set_option linter.unusedVariables false
open Go Go.RowKit Go.Sort Go.BigFrame Go.Shelf
attribute [local go_sem] Oper.semAt_some

def getL {α : Type} (xs : List α) (n : Int) : Option α := if n < 0 then none else xs[n.toNat]?
def leafR : Option Lf → Value
  | some x => .tuple #[lfV x, .bool true]
  | none => .tuple #[.agg #[.int .i64 0, .int .i64 0, .int .i64 0, .int .i64 0], .bool false]
theorem zip_at {xs : List Lf} {pre rest : List (Lf × Nat)} {y : Lf × Nat} (h : xs.zipIdx = pre ++ y :: rest) : y.2 = pre.length ∧ xs[pre.length]? = some y.1 := by
  have h1 : xs.zipIdx[pre.length]? = some y := by rw [h]; simp
  rw [List.getElem?_zipIdx] at h1
  cases hx : xs[pre.length]? with
  | none => rw [hx] at h1; cases h1
  | some z => rw [hx] at h1; simp only [Option.map_some, Option.some.injEq] at h1; subst h1; exact ⟨by simp, rfl⟩

set_option maxRecDepth 100000 in
set_option maxHeartbeats 1000000 in
theorem leaf_any (b : Bk) (v : Value) (n : Int) (w : World) (hb : BookAt w.heap.size w v b) (he : errF b = 0) :
    Calls Tryz.prog 46 #[v, .int .i64 n] w fun e w' => e = .returned (leafR (getL (lvs b) n)) ∧ Below w.heap.size w w' := by
  obtain ⟨sv, rfl, hgs⟩ := hb
  have hgs' := hgs
  obtain ⟨a, cap, rfl, -⟩ := hgs'
  have hok := errF_zero he
  refine (callsIn_wide (n := 10)).1 ?_
  refine callsIn_of_wp_marks Tryz.func46 rfl trivial ?_ rfl
  simp only [Tryz.ntmps46, List.size_toArray, List.length_cons, List.length_nil, Nat.reduceAdd, Nat.reduceSub, Array.replicate_succ, Array.replicate_zero, List.push_toArray, List.append_toArray, List.nil_append, List.cons_append]
  have HG := Lib.hid hgs
  clear hgs
  gi_wp2_with fail
  refine ⟨trivial, ?_⟩
  refine (callsIn_wide.2 (volLeaves_any b.signed a b.gs.length cap _)).mono ?_
  rintro e w1 ⟨rfl, hw1⟩
  gi_wp2_with fail
  obtain ⟨K, hK⟩ : ∃ K, K = w.heap.size := ⟨_, rfl⟩
  have hz1 : w1.heap.size = K + 5 := by rw [← hw1, hK]; simp
  have hh : Held w [(K + 1, .cells #[.int .i64 n] 3), (K + 2, .cells #[.int .i64 0, .int .i64 0, .int .i64 0, .int .i64 0] 89), (K + 3, .cells #[.bool false] 4)] w1 := by
    subst hK
    refine ⟨by rw [← hw1]; exact (by repeat (first | (refine Below.setCell ?_ ?_ _; rotate_left; · (first | omega | (simp; done) | (simp; omega) | fail)) | (refine Below.alloc ?_ ?_ _; rotate_left; · (first | omega | (simp; done) | (simp; omega) | fail)) | refine Below.drew ?_ | exact Below.refl _ _ | fail)), fun p hp => ?_⟩
    simp only [List.mem_cons, List.not_mem_nil, or_false] at hp
    rw [← hw1]
    rcases hp with rfl | rfl | rfl <;> exact (by repeat (first | exact heap_alloc_at _ _ _ (by (first | omega | (simp; done) | (simp; omega) | fail)) | (refine (heap_alloc_past _ _ _ ?_).trans ?_; · (first | omega | (simp; done) | (simp; omega) | fail)) | fail))
  have hvb : w1.heap[K + 4]? = some (.cells #[.int .i64 b.signed, .slice a b.gs.length cap] 57) := by rw [← hw1, hK]; exact (by repeat (first | exact heap_alloc_at _ _ _ (by (first | omega | (simp; done) | (simp; omega) | fail)) | (refine (heap_alloc_past _ _ _ ?_).trans ?_; · (first | omega | (simp; done) | (simp; omega) | fail)) | fail))
  simp only [World.size_alloc, ← hK]
  have hKl : w.heap.size ≤ K := by omega
  clear hw1 hK
  have HV := Lib.hid hvb
  clear hvb
  refine rf_law (gf := 77) (lb := #[.pointer (some ⟨K + 4, 0, none⟩)]) rfl (enters_of Tryz.func77 (by kernel_rfl) rfl)
    (leaves_it b.gs b.signed a cap w1 (K + 4) w.heap.size (by omega) (HG.out.below hh.below (Nat.le_refl _)) hok.gs (by have := hok.len; omega) HV.out) (fun _ => rfl) (fun j hj => by rcases hj with h | h <;> omega)
    (fun pre W => Held w [(K + 1, .cells #[.int .i64 n] 3), (K + 2, .cells #[.int .i64 0, .int .i64 0, .int .i64 0, .int .i64 0] 89), (K + 3, .cells #[.bool false] 4)] W ∧ ¬ (0 ≤ n ∧ n < pre.length))
    (fun c _ W => c = .ret ∧ ∃ x, getL (lvs b) n = some x ∧ Held w [(K + 2, .cells #[.int .i64 x.gat, .int .i64 x.num, .int .i64 x.plus, .int .i64 x.kind] 89), (K + 3, .cells #[.bool true] 4)] W)
    (fun _ _ => False) (fun y => .cells #[.int .i64 y.1.gat, .int .i64 y.1.num, .int .i64 y.1.plus, .int .i64 y.1.kind] 89)
    (fun y bx => { tmps := #[.agg #[.int .i64 b.signed, .slice a b.gs.length cap], .int .i64 n, .pointer (some ⟨K, 0, none⟩), .pointer (some ⟨K + 1, 0, none⟩), .pointer (some ⟨K + 2, 0, none⟩), .pointer (some ⟨K + 3, 0, none⟩), .int .i64 y.2, .pointer (some ⟨bx, 0, none⟩), .agg #[.int .i64 b.signed, .slice a b.gs.length cap], .func (.func 77) #[] #[.pointer (some ⟨K + 4, 0, none⟩)], .int .i64 y.2, lfV y.1, undef, undef, undef, undef, undef], defers := [] })
    (fun _ _ _ _ h => h.elim) ?hI ?hIx ⟨hh, by simp⟩ ?assign ?body ?done ?stop
  case hI =>
    rintro pre X W W' ⟨h1, h2⟩ ho hX
    refine ⟨⟨h1.only ho (hs := w1.heap.size) (fun k h => (hX k h).1) (by omega) (fun p hp => ?_), h2⟩, fun k h => h.elim⟩
    simp only [List.mem_cons, List.not_mem_nil, or_false] at hp
    rcases hp with rfl | rfl | rfl <;> (simp only; omega)
  case hIx =>
    rintro c pre X W W' ⟨h0, x, h1, h2⟩ ho hX
    refine ⟨h0, x, h1, h2.only ho (hs := w1.heap.size) hX (by omega) (fun p hp => ?_)⟩
    simp only [List.mem_cons, List.not_mem_nil, or_false] at hp
    rcases hp with rfl | rfl <;> (simp only; omega)
  case assign =>
    intro l y W K' hK'
    gi_wp2_with fail
    exact hK'
  case body =>
    rintro l pre y rest bx W hsp ⟨h1, h2⟩ hbx hlb -
    obtain ⟨hy, hx⟩ := zip_at hsp
    have n0 := blk_cell (h1.get 0 rfl) 0
    by_cases hn : (y.2 : Int) = n
    · have r := h1.get 1 rfl
      have s := h1.get 2 rfl
      have d0 := blk_cell hbx 0; have d1 := blk_cell hbx 1; have d2 := blk_cell hbx 2; have d3 := blk_cell hbx 3
      have r0 := blk_cell r 0; have r1 := blk_cell r 1; have r2 := blk_cell r 2; have r3 := blk_cell r 3
      have f0 := blk_free r 0; have f1 := blk_free r 1; have f2 := blk_free r 2; have f3 := blk_free r 3
      have s0 := blk_cell s 0
      have g0 := blk_free s 0
      gi_wp2_with fail
      refine ⟨Turn.of (X := fun k => k = K + 2 ∨ k = K + 3) (by repeat (first | exact OnlyIn.refl _ _ | refine OnlyIn.trans ?_ (OnlyIn.setCell _ _ _ (by simp)) | refine OnlyIn.trans ?_ (OnlyIn.alloc _ _ _) | refine OnlyIn.trans ?_ (OnlyIn.drew _ _) | fail)) (fun k hk => ?_) (fun k hk => ?_), rfl, y.1, ?_, h1.below.trans ?_, fun p hp => ?_⟩
      · have := h1.below.size
        rcases hk with rfl | rfl <;> exact ⟨by omega, fun h => by rcases h with h | h <;> omega⟩
      · have := h1.below.size
        have := blk_lt hbx
        rcases hk with rfl | hk <;> omega
      · unfold getL; rw [if_neg (by omega), show n.toNat = pre.length by omega]; exact hx
      · have hb0 := Below.refl w.heap.size W
        have := h1.below.size
        exact (by repeat (first | (refine Below.setCell ?_ ?_ _; rotate_left; · (first | omega | (simp; done) | (simp; omega) | fail)) | (refine Below.alloc ?_ ?_ _; rotate_left; · (first | omega | (simp; done) | (simp; omega) | fail)) | refine Below.drew ?_ | exact hb0 | fail))
      · (simp only [List.mem_cons, List.not_mem_nil, or_false] at hp)
        rcases hp with rfl | rfl <;> dsimp only
        · exact (heap_setCell_past _ ⟨K + 3, 0, none⟩ _ (K + 2) (by simp)).trans (blk_set4 r _ _ _ _)
        · refine blk_set1 (a := .bool false) ?_ _
          exact (by repeat (first | (refine (heap_setCell_past _ _ _ _ ?_).trans ?_; · (first | omega | (simp; done) | (simp; omega) | fail)) | (refine (heap_alloc_past _ _ _ ?_).trans ?_; · (first | omega | (simp; done) | (simp; omega) | fail)) | exact s | fail))
    · gi_wp2_with fail
      refine ⟨Turn.refl _ _ _ _, h1, ?_⟩
      simp only [List.length_append, List.length_cons, List.length_nil]
      omega
  case done =>
    rintro D W hD ⟨h1, h2⟩ hdef
    have r := h1.get 1 rfl
    have s := h1.get 2 rfl
    have r0 := blk_cell r 0; have r1 := blk_cell r 1; have r2 := blk_cell r 2; have r3 := blk_cell r 3
    have f0 := blk_free r 0; have f1 := blk_free r 1; have f2 := blk_free r 2; have f3 := blk_free r 3
    have s0 := blk_cell s 0
    have g0 := blk_free s 0
    have hKW := h1.below.size
    gi_wp2_with fail
    have h4 : Held w [(K + 1 + 1, .cells #[.int .i64 0, .int .i64 0, .int .i64 0, .int .i64 0] 89), (K + 1 + 1 + 1, .cells #[.bool false] 4)] (((((W.setCell ⟨K + 1 + 1, 0, none⟩ (.int .i64 0)).setCell ⟨K + 1 + 1, 1, none⟩ (.int .i64 0)).setCell ⟨K + 1 + 1, 2, none⟩ (.int .i64 0)).setCell ⟨K + 1 + 1, 3, none⟩ (.int .i64 0)).setCell ⟨K + 1 + 1 + 1, 0, none⟩ (.bool false)) := by
      refine ⟨h1.below.trans ?_, fun p hp => ?_⟩
      · have hb0 := Below.refl w.heap.size W
        exact (by repeat (first | (refine Below.setCell ?_ ?_ _; rotate_left; · (first | omega | (simp; done) | (simp; omega) | fail)) | (refine Below.alloc ?_ ?_ _; rotate_left; · (first | omega | (simp; done) | (simp; omega) | fail)) | refine Below.drew ?_ | exact hb0 | fail))
      · (simp only [List.mem_cons, List.not_mem_nil, or_false] at hp)
        rcases hp with rfl | rfl <;> dsimp only
        · exact (heap_setCell_past _ ⟨K + 1 + 1 + 1, 0, none⟩ _ (K + 1 + 1) (by simp)).trans (blk_set4 r _ _ _ _)
        · refine blk_set1 (a := .bool false) ?_ _
          exact (by repeat (first | (refine (heap_setCell_past _ _ _ _ ?_).trans ?_; · (first | omega | (simp; done) | (simp; omega) | fail)) | (refine (heap_alloc_past _ _ _ ?_).trans ?_; · (first | omega | (simp; done) | (simp; omega) | fail)) | exact s | fail))
    have h3 := h4.put (.deferred none) (D := D) (by omega) (fun p hp => by (simp only [List.mem_cons, List.not_mem_nil, or_false] at hp); rcases hp with rfl | rfl <;> (simp only; omega))
    have hdef' : (((((W.setCell ⟨K + 1 + 1, 0, none⟩ (.int .i64 0)).setCell ⟨K + 1 + 1, 1, none⟩ (.int .i64 0)).setCell ⟨K + 1 + 1, 2, none⟩ (.int .i64 0)).setCell ⟨K + 1 + 1, 3, none⟩ (.int .i64 0)).setCell ⟨K + 1 + 1 + 1, 0, none⟩ (.bool false)).heap[D]? = some (.deferred (some [])) := by exact (by repeat (first | (refine (heap_setCell_past _ _ _ _ ?_).trans ?_; · (first | omega | (simp; done) | (simp; omega) | fail)) | (refine (heap_alloc_past _ _ _ ?_).trans ?_; · (first | omega | (simp; done) | (simp; omega) | fail)) | exact hdef | fail))
    have r := h3.get 0 rfl
    have s := h3.get 1 rfl
    have r0 := blk_cell r 0; have r1 := blk_cell r 1; have r2 := blk_cell r 2; have r3 := blk_cell r 3
    have s0 := blk_cell s 0
    refine leave_ret hdef' ⟨leafR none, by simp [leafR, results, Tryz.results46, go_sem, r0, r1, r2, r3, s0], ?_⟩
    have hN : getL (lvs b) n = none := by
      rw [List.length_zipIdx] at h2
      unfold getL
      split
      · rfl
      · exact List.getElem?_eq_none (by unfold lvs; omega)
    rw [hN]
    exact ⟨rfl, h3.below⟩
  case stop =>
    rintro D c pre W hD ⟨rfl, x, h1, h2⟩ hdef
    gi_wp2_with fail
    have h3 := h2.put (.deferred none) (D := D) (by omega) (fun p hp => by (simp only [List.mem_cons, List.not_mem_nil, or_false] at hp); rcases hp with rfl | rfl <;> (simp only; omega))
    have r := h3.get 0 rfl
    have s := h3.get 1 rfl
    have r0 := blk_cell r 0; have r1 := blk_cell r 1; have r2 := blk_cell r 2; have r3 := blk_cell r 3
    have s0 := blk_cell s 0
    refine leave_ret hdef ⟨leafR (some x), by simp [leafR, lfV, results, Tryz.results46, go_sem, r0, r1, r2, r3, s0], ?_⟩
    rw [h1]
    exact ⟨rfl, h3.below⟩

end Go.Proofs.YtimdmgkegdlafaaGreatDoor

/- 'list = append(list, x)' in a round: the row is as before or new. For any program. -/
namespace Go.Proofs.YtimdmgkegdlafaaGreatDoor
set_option linter.unusedSimpArgs false
set_option linter.unusedVariables false
open Go Go.RowKit

theorem run_append_one {P : Program} (w : World) (base : Nat) (t ty e : TypeId) (i : TypeInfo) (z : Value) (size bytes : Nat) (ht : P.underlying t = some (.slice e)) (hi : P.info? e = some i) (hz : i.zero = some z)
    (hsize : i.size = size) (hby : i.bytes = bytes) (hzs : z.cells.size = size) (hsz : 0 < size)
    (v : Value) (n : Nat) (xs : List Value) (hown : w.ownsRow base e size v n xs)
    (a : Addr) (c : Nat) (news : List Value) (hl : news.length = size) (hnews : ∀ j u, news[j]? = some u → w.cell? (a.add j) = some u) (h1 : ∀ u ∈ news, u.oneCell' = true)
    (h63 : n + 1 ≤ maxLen) (hbytes : (n + 1) * bytes ≤ 140737488355328) (hbase : base ≤ w.heap.size) :
    ∃ g cap w', (Builtin.append_ #[t, t] ty #[v, .slice (some a) 1 c]).run P w = .ok (.slice (some ⟨g, 0, none⟩) (n + 1) cap) w' ∧ w'.ownsRow base e size (.slice (some ⟨g, 0, none⟩) (n + 1) cap) (n + 1) (xs ++ news) ∧ w.grownBy w' v.ownBlock ∧
      (v.ownBlock = some g ∨ w.heap.size ≤ g) := by
  have hl1 : news.length = 1 * size := by omega
  obtain ⟨v', w', hr, ho, hg, -⟩ := run_append_own (P := P) w base t ty e i z size bytes ht hi hz hsize hby hzs hsz v n xs hown a 1 c news hl1 hnews h1 h63 hbytes hbase
  obtain ⟨g, cap, rfl⟩ := ownsRow_succ ho
  refine ⟨g, cap, w', hr, ho, hg, ?_⟩
  rcases hown.2 with ⟨rfl, rfl⟩ | ⟨g0, cap0, cur, rfl, hbg, hg0, hnc, hcm, hcs, htake⟩
  · have hx : xs = [] := List.eq_nil_of_length_eq_zero (by simpa using hown.1)
    subst hx
    obtain ⟨v2, w2, hr2, ho2, -, -⟩ := run_append_own (P := P) w w.heap.size t ty e i z size bytes ht hi hz hsize hby hzs hsz (.slice none 0 0) 0 [] (World.ownsRow_nil w _ _ _) a 1 c news hl1 hnews h1 h63 hbytes (Nat.le_refl _)
    rw [hr] at hr2
    cases hr2
    rcases ho2.2 with ⟨h, -⟩ | ⟨g', cap', cur', h, hb', -⟩
    · cases h
    · cases h; exact Or.inr hb'
  · subst hsize
    by_cases hroom : n + 1 ≤ cap0
    · have hfit : n * i.size + news.length ≤ cur.size := by rw [hl1, hcs, ← Nat.add_mul]; exact Nat.mul_le_mul_right _ hroom
      have hr2 := run_append_room (P := P) w t ty e i ht hi g0 n cap0 cur hg0 a 1 c news hl1 hnews h1 hroom hfit
      rw [hr] at hr2
      cases hr2
      exact Or.inl rfl
    · have hcell : ∀ j u, xs[j]? = some u → w.cell? ((⟨g0, 0, none⟩ : Addr).add j) = some u := World.ownsRow.cells hown (by simp [Value.ownBlock])
      have hr2 := run_append_grow (P := P) w t ty e i z ht hi hz ⟨g0, 0, none⟩ n cap0 xs hown.1 hcell a 1 c news hl1 hnews (by omega) (by simp only [maxLen] at h63; omega) (growslice_fits (by omega) (by rw [hby]; exact hbytes))
      rw [hr] at hr2
      cases hr2
      exact Or.inr (Nat.le_refl _)

theorem wpListIn_append_one {F : Fence} {n : Nat} {P : Program} (w : World) {ops : Array Oper} {rest : List Oper} {o : Oper} {a : Act} {Q : Exit → Act → World → Prop}
    (hg : o.guard = none) (s x : Operand) (t : TypeId) (hop : o.op = Op.call { callee := Callee.builtin Builtin.append, args := #[s, x], argTypes := #[t, t] })
    (base : Nat) (e : TypeId) (i : TypeInfo) (z : Value) (size bytes : Nat) (h1 : P.underlying t = some (.slice e)) (h2 : P.info? e = some i) (h3 : i.zero = some z) (h4 : i.size = size) (h5 : i.bytes = bytes) (h6 : z.cells.size = size) (h7 : 0 < size)
    (v : Value) (k : Nat) (xs : List Value) (hs : a.eval s = v) (hown : w.ownsRow base e size v k xs) (ad : Addr) (c : Nat) (news : List Value) (hx : a.eval x = .slice (some ad) 1 c) (hn : news.length = size)
    (hc : ∀ j u, news[j]? = some u → w.cell? (ad.add j) = some u) (h1c : ∀ u ∈ news, u.oneCell' = true) (b1 : k + 1 ≤ maxLen) (b2 : (k + 1) * bytes ≤ 140737488355328) (b3 : base ≤ w.heap.size)
    (hK : ∀ g cap w', w'.ownsRow base e size (.slice (some ⟨g, 0, none⟩) (k + 1) cap) (k + 1) (xs ++ news) → w.grownBy w' v.ownBlock → (v.ownBlock = some g ∨ w.heap.size ≤ g) → wpListIn F n P ops Q rest (a.put o.dst (.slice (some ⟨g, 0, none⟩) (k + 1) cap)) w') :
    wpListIn F n P ops Q (o :: rest) a w := by
  refine wpListIn_plain hg fun K hK' => ?_
  obtain ⟨g, cap, w', hrun, r1, r2, r3⟩ := run_append_one (P := P) w base t o.type e i z size bytes h1 h2 h3 h4 h5 h6 h7 v k xs hown ad c news hn hc h1c b1 b2 b3
  unfold Oper.wpIn
  refine ⟨?_, ?_⟩
  · simp [Oper.about, hop, resolve, Target.leads, Sem.run_pure]
  · rw [Oper.semAt_plain F _ _ (by rw [hop]; intro c hc'; cases hc')]
    simp [execOp, hop, resolve, invoke, builtin, hs, hx, hrun, Result.andThen]
    exact hK' _ _ (hK g cap w' r1 r2 r3)

/-- A variable's box holds a slice of the call's own. -/
def ListAt (W : World) (base BL : Nat) (ty e : TypeId) (size k : Nat) (xs : List Value) : Prop := ∃ v, W.heap[BL]? = some (.cells #[v] ty) ∧ W.ownsRow base e size v k xs
/-- The row of that slice. -/
def OwL (BL : Nat) (ty : TypeId) (W : World) (j : Nat) : Prop := ∃ v, W.heap[BL]? = some (.cells #[v] ty) ∧ v.ownBlock = some j
theorem ListAt.own {W : World} {base BL : Nat} {ty e : TypeId} {size k : Nat} {xs : List Value} (h : ListAt W base BL ty e size k xs) {j : Nat} (hj : OwL BL ty W j) : base ≤ j ∧ ∃ c t f, W.heap[j]? = some (.cells c t f) := by
  obtain ⟨v, h1, h2⟩ := h
  obtain ⟨u, h3, h4⟩ := hj
  rw [h1] at h3
  simp only [Option.some.injEq, Obj.cells.injEq, Array.mk.injEq, List.cons.injEq, and_true] at h3
  subst h3
  refine ⟨(h2.lt j h4).1, ?_⟩
  rcases h2.2 with ⟨rfl, -⟩ | ⟨g, cap, cur, rfl, -, hg, -⟩
  · simp [Value.ownBlock] at h4
  · simp only [Value.ownBlock, Option.some.injEq] at h4
    subst h4
    exact ⟨_, _, _, hg⟩
theorem ListAt.only {W W' : World} {X : Nat → Prop} {hs base BL : Nat} {ty e : TypeId} {size k : Nat} {xs : List Value} (h : ListAt W base BL ty e size k xs) (ho : OnlyIn X W W') (hX : ∀ j, X j → hs ≤ j ∧ ¬ OwL BL ty W j) (hBL : BL < hs) :
    ListAt W' base BL ty e size k xs ∧ ∀ j, OwL BL ty W' j → OwL BL ty W j := by
  obtain ⟨v, h1, h2⟩ := h
  have h1' : W'.heap[BL]? = some (.cells #[v] ty) := (ho.block BL (Array.getElem?_eq_some_iff.1 h1).1 (fun hx => by have := (hX _ hx).1; omega)).trans h1
  refine ⟨⟨v, h1', h2.1, ?_⟩, fun j ⟨u, h3, h4⟩ => ?_⟩
  · rcases h2.2 with hn | ⟨g, cap, cur, rfl, hb, hg, rest⟩
    · exact .inl hn
    · refine .inr ⟨g, cap, cur, rfl, hb, ?_, rest⟩
      exact (ho.block g (Array.getElem?_eq_some_iff.1 hg).1 (fun hx => (hX _ hx).2 ⟨_, h1, by simp [Value.ownBlock]⟩)).trans hg
  · rw [h1'] at h3
    simp only [Option.some.injEq, Obj.cells.injEq, Array.mk.injEq, List.cons.injEq, and_true] at h3
    subst h3
    exact ⟨v, h1, h4⟩
/-- Behind 'list = append(list, x)'. -/
theorem list_step {W Wt w' : World} {hs base BL : Nat} {ty e : TypeId} {size k g cap : Nat} {v : Value} {xs ys : List Value} {Pr : Nat → Prop} (hL : W.heap[BL]? = some (.cells #[v] ty)) (hrow : W.ownsRow base e size v k xs) (_hty : ty ≠ e)
    (ho : OnlyIn (fun _ => False) W Wt) (hown : w'.ownsRow base e size (.slice (some ⟨g, 0, none⟩) (k + 1) cap) (k + 1) ys) (hgrow : Wt.grownBy w' v.ownBlock) (hg : v.ownBlock = some g ∨ Wt.heap.size ≤ g)
    (hBL : BL < hs) (hb : hs ≤ base) (hPr : ∀ j, Pr j → j ≠ BL ∧ j < base ∧ j < W.heap.size) :
    w'.heap[BL]? = some (.cells #[v] ty) ∧ ListAt (w'.setCell ⟨BL, 0, none⟩ (.slice (some ⟨g, 0, none⟩) (k + 1) cap)) base BL ty e size (k + 1) ys ∧
      Turn hs Pr (OwL BL ty) W (w'.setCell ⟨BL, 0, none⟩ (.slice (some ⟨g, 0, none⟩) (k + 1) cap)) ∧ OnlyIn (fun j => j = BL ∨ base ≤ j) W (w'.setCell ⟨BL, 0, none⟩ (.slice (some ⟨g, 0, none⟩) (k + 1) cap)) := by
  have hBlt : BL < W.heap.size := (Array.getElem?_eq_some_iff.1 hL).1
  have hLt : Wt.heap[BL]? = some (.cells #[v] ty) := (ho.block BL hBlt (fun h => h)).trans hL
  have hnr : some BL ≠ v.ownBlock := fun e' => by
    have h := (hrow.lt BL e'.symm).1; omega
  have hLw : w'.heap[BL]? = some (.cells #[v] ty) := (hgrow.block BL (Array.getElem?_eq_some_iff.1 hLt).1 hnr).trans hLt
  have hne : g ≠ BL := fun e' => by
    rcases hg with h | h
    · exact hnr (by rw [h, e'])
    · have := (Array.getElem?_eq_some_iff.1 hLt).1; omega
  have hL3 : (w'.setCell ⟨BL, 0, none⟩ (.slice (some ⟨g, 0, none⟩) (k + 1) cap)).heap[BL]? = some (.cells #[.slice (some ⟨g, 0, none⟩) (k + 1) cap] ty) := blk_set1 hLw _
  have hkeep : ∀ j, j < W.heap.size → j ≠ BL → some j ≠ v.ownBlock → (w'.setCell ⟨BL, 0, none⟩ (.slice (some ⟨g, 0, none⟩) (k + 1) cap)).heap[j]? = W.heap[j]? := fun j hj hjB hjv =>
    (heap_setCell_past w' ⟨BL, 0, none⟩ _ j hjB).trans ((hgrow.block j (Nat.lt_of_lt_of_le hj ho.size) hjv).trans (ho.block j hj (fun h => h)))
  have hsz : W.heap.size ≤ (w'.setCell ⟨BL, 0, none⟩ (.slice (some ⟨g, 0, none⟩) (k + 1) cap)).heap.size := by
    simp only [World.size_setCell]; exact Nat.le_trans ho.size hgrow.size
  refine ⟨hLw, ⟨_, hL3, hown.kept (grownBy_setCell' w' BL _) (.inr (by simp only [Value.ownBlock, ne_eq, Option.some.injEq]; exact hne))⟩, ⟨hsz, fun j hj => ?_, fun j h1 h2 h3 => ?_, fun j hj ⟨u, h3, h4⟩ => ?_⟩, ⟨?_, ?_, ?_, hsz, fun j hj hx => ?_⟩⟩
  · obtain ⟨a1, a2, a3⟩ := hPr j hj
    exact hkeep j a3 a1 (fun e' => by have := (hrow.lt j e'.symm).1; omega)
  · exact hkeep j h2 (by omega) (fun e' => h3 ⟨v, hL, e'.symm⟩)
  · rw [hL3] at h3
    simp only [Option.some.injEq, Obj.cells.injEq, Array.mk.injEq, List.cons.injEq, and_true] at h3
    subst h3
    simp only [Value.ownBlock, Option.some.injEq] at h4
    subst h4
    rcases hg with h | h
    · exact ⟨v, hL, h⟩
    · have := ho.size; omega
  · show w'.os = _; rw [hgrow.os, ho.os]
  · show w'.tape = _; rw [hgrow.tape, ho.tape]
  · show w'.output = _; rw [hgrow.output, ho.output]
  · exact hkeep j hj (fun e' => hx (Or.inl e')) (fun e' => hx (Or.inr (hrow.lt j e'.symm).1))

theorem cells_new (W : World) (l : List Value) (t : TypeId) : ∀ j u, l[j]? = some u → (W.alloc (.cells ⟨l⟩ t)).cell? ((⟨W.heap.size, 0, none⟩ : Addr).add j) = some u := by
  intro j u hu
  have hadd : (⟨W.heap.size, 0, none⟩ : Addr).add j = ⟨W.heap.size, j, none⟩ := by unfold Addr.add; split <;> simp_all
  rw [hadd, blk_cell (heap_alloc_at W _ _ rfl) j]
  simpa using hu
theorem row_mono {W : World} {base b' : Nat} {e : TypeId} {size k : Nat} {v : Value} {xs : List Value} (h : W.ownsRow base e size v k xs) (hb : b' ≤ base) : W.ownsRow b' e size v k xs :=
  ⟨h.1, h.2.imp id fun ⟨g, cap, cur, he, hb', rest⟩ => ⟨g, cap, cur, he, Nat.le_trans hb hb', rest⟩⟩
theorem elemOf {P : Program} {e : TypeId} {z : Value} {size bytes : Nat} (h : (P.info? e).map (fun i => (i.zero, i.size, i.bytes)) = some (some z, size, bytes)) : ∃ i, P.info? e = some i ∧ i.zero = some z ∧ i.size = size ∧ i.bytes = bytes := by
  cases hi : P.info? e with
  | none => rw [hi] at h; cases h
  | some i =>
    rw [hi] at h
    simp only [Option.map_some, Option.some.injEq, Prod.mk.injEq] at h
    exact ⟨i, rfl, h.1, h.2.1, h.2.2⟩
theorem grown_of_below {W W1 : World} (h : Below W.heap.size W W1) : W.grownBy W1 none := ⟨h.os, h.tape, h.output, h.size, fun k hk _ => h.block k hk⟩
theorem row_later {W W1 : World} {base : Nat} {e : TypeId} {size k : Nat} {v : Value} {xs : List Value} (h : W.ownsRow base e size v k xs) (hb : Below W.heap.size W W1) : W1.ownsRow base e size v k xs :=
  h.kept (grown_of_below hb) (by cases v.ownBlock <;> simp)
/-- A round that only calls and lays blocks. -/
theorem list_stay {W W1 : World} {hs base BL : Nat} {ty e : TypeId} {size k : Nat} {v : Value} {xs : List Value} {Pr : Nat → Prop} (hL : W.heap[BL]? = some (.cells #[v] ty)) (hrow : W.ownsRow base e size v k xs) (hb : Below W.heap.size W W1) (hPr : ∀ j, Pr j → j < W.heap.size) :
    Turn hs Pr (OwL BL ty) W W1 ∧ ListAt W1 base BL ty e size k xs := by
  have hL1 := blk_later hb hL
  refine ⟨⟨hb.size, fun j hj => hb.block j (hPr j hj), fun j _ hj _ => hb.block j hj, fun j _ ⟨u, h3, h4⟩ => ?_⟩, v, hL1, row_later hrow hb⟩
  rw [hL1] at h3
  simp only [Option.some.injEq, Obj.cells.injEq, Array.mk.injEq, List.cons.injEq, and_true] at h3
  subst h3
  exact ⟨v, hL, h4⟩
/-- THE STATEMENT, its body collecting in a slice that lies in a box. -/
theorem rf_list {P : Program} {n : Nat} {α : Type} {g : Operand} {ps : Array Tmp} {assign body : Code} {Q : Exit → Act → World → Prop} {a : Act} {w : World}
    {gf : Nat} {lb : Array Value} (hg : a.eval g = .func (.func gf) #[] lb) (eg : ∀ args w, (callFunc gf args).run P w = .ok (.enter gf args) w)
    {encs : α → Array Value} {xs : List α} {Pr : Nat → Prop} (hit : ItC P gf lb encs xs Pr w) (hps : ∀ x, (encs x).size = ps.size) (hPr : ∀ k, Pr k → k < w.heap.size)
    (w0 : World) (bs : List (Nat × Obj)) (BL : Nat) (ty e : TypeId) (size : Nat) (kf : List α → Nat) (xf : List α → List Value) (o : α → Obj) (upd : α → Nat → List (Nat × Value))
    (hbs : ∀ p ∈ bs, p.1 < w.heap.size) (h0 : Held w0 bs w) (hL0 : w.heap[BL]? = some (.cells #[.slice none 0 0] ty)) (hk0 : kf [] = 0) (hx0 : xf [] = [])
    (hassign : ∀ (l : Nat) (x : α) (W : World) (K : Act → World → Prop), K { tmps := putAll a.tmps (upd x W.heap.size), defers := [] } (W.alloc (o x)) →
      assign.wpIn (Fence.wide.inRound l) 9 P (Exit.then K (fun _ _ _ => False)) { tmps := (ps.zip (encs x)).foldl (fun t (p, v) => t.setIfInBounds p v) a.tmps, defers := [] } W)
    (hbody : ∀ (l : Nat) (pre : List α) (x : α) (rest : List α) (bx : Nat) (W : World) (v : Value), xs = pre ++ x :: rest → Held w0 bs W → W.heap[BL]? = some (.cells #[v] ty) → W.ownsRow w.heap.size e size v (kf pre) (xf pre) → W.heap[bx]? = some (o x) → w.heap.size ≤ bx → v.ownBlock ≠ some bx →
      body.wpIn (Fence.wide.inRound l) 9 P (fun e' _ W' => e' = .normal ∧ Turn w.heap.size Pr (OwL BL ty) W W' ∧ Held w0 bs W' ∧ ListAt W' w.heap.size BL ty e size (kf (pre ++ [x])) (xf (pre ++ [x]))) { tmps := putAll a.tmps (upd x bx), defers := [] } W)
    (hdone : ∀ (D : Nat) (W : World) (v : Value), w.heap.size ≤ D → Held w0 bs W → W.heap[BL]? = some (.cells #[v] ty) → W.ownsRow w.heap.size e size v (kf xs) (xf xs) → W.heap[D]? = some (.deferred (some [])) → Q .normal { a with defers := { target := .collected D, args := #[] } :: a.defers } W) :
    (Code.rangeFunc g ps assign body).wpIn Fence.wide n P Q a w := by
  have hBL : BL < w.heap.size := (Array.getElem?_eq_some_iff.1 hL0).1
  refine rf_law2 hg eg hit hps hPr (fun pre W => Held w0 bs W ∧ ListAt W w.heap.size BL ty e size (kf pre) (xf pre)) (fun _ _ _ => False) (OwL BL ty) o upd
    (fun pre W k h hk => (h.2.own hk).2) ?_ (fun _ _ _ _ _ h => h.elim) ⟨h0, _, hL0, by rw [hk0, hx0]; exact World.ownsRow_nil _ _ _ _⟩ hassign ?_ ?_ (fun _ _ _ _ _ h => h.elim)
  · rintro pre X W W' ⟨h1, h2⟩ ho hX
    obtain ⟨h3, h4⟩ := h2.only ho hX hBL
    exact ⟨⟨h1.only ho (hs := w.heap.size) (fun k h => (hX k h).1) h0.below.size hbs, h3⟩, h4⟩
  · rintro l pre x rest bx W hsp ⟨h1, v, h2, h3⟩ hbx hlb hnb
    refine wpIn_mono (hbody l pre x rest bx W v hsp h1 h2 h3 hbx hlb (fun e' => hnb ⟨v, h2, e'⟩)) ?_
    rintro e' a' W' ⟨rfl, q1, q2, q3⟩
    exact ⟨q1, q2, q3⟩
  · rintro D W hD ⟨h1, v, h2, h3⟩ hd
    exact hdone D W v hD h1 h2 h3 hd

end Go.Proofs.YtimdmgkegdlafaaGreatDoor

/- Leaves. -/
namespace Go.Proofs.YtimdmgkegdlafaaGreatDoor
set_option linter.unusedSimpArgs false
set_option linter.unusedVariables false
open Go Go.RowKit Go.Sort Go.BigFrame Go.Shelf
attribute [local go_sem] Oper.semAt_some putAll

theorem elemLf : ∃ i, Tryz.prog.info? 89 = some i ∧ i.zero = some (.agg #[.int .i64 0, .int .i64 0, .int .i64 0, .int .i64 0]) ∧ i.size = 4 ∧ i.bytes = 32 := elemOf (by kernel_rfl)
theorem undLf : Tryz.prog.underlying 47 = some (.slice 89) := by kernel_rfl
/-- The cells of leaves in a row. -/
def lfCells (xs : List Lf) : List Value := xs.flatMap fun x => [.int .i64 x.gat, .int .i64 x.num, .int .i64 x.plus, .int .i64 x.kind]

set_option maxRecDepth 100000 in
set_option maxHeartbeats 1000000 in
theorem Leaves_bad (b : Bk) (v : Value) (w : World) (hb : BookAt w.heap.size w v b) (he : errF b ≠ 0) :
    Calls Tryz.prog 17 #[v] w fun e w' => e = .returned (.tuple #[.slice none 0 0, .int .i64 (errF b)]) ∧ Below w.heap.size w w' := by
  have hb' := hb
  obtain ⟨sv, rfl, hgs⟩ := hb
  have hgs' := hgs
  obtain ⟨a, cap, rfl, -⟩ := hgs'
  have hop : openV b (.agg #[.int .i64 b.signed, .slice a b.gs.length cap]) = .tuple #[.agg #[.int .i64 0, .slice none 0 0], .int .i64 (errF b)] := by simp [openV, he]
  have hne : (errF b != 0) = true := by simp [he]
  go_enter Tryz.func17, Tryz.ntmps17
  go_wp2_with fail
  refine (open_any b _ _ (hb'.below (B := w.heap.size) (Below.refl _ _ |>.alloc (Nat.le_refl _) _) (Nat.le_refl _) |>.mono (by simp))).mono ?_
  rintro e w1 ⟨rfl, hb1⟩
  rw [hop]
  have hb0 : Below w.heap.size w w1 := ((Below.refl _ w).alloc (Nat.le_refl _) _).trans (hb1.mono (by simp))
  have hz := hb0.size
  go_wp2_with fail
  go_ret2
  exact ⟨rfl, (by repeat (first | (refine Below.setCell ?_ ?_ _; rotate_left; · (first | omega | (simp; done) | (simp; omega) | fail)) | (refine Below.alloc ?_ ?_ _; rotate_left; · (first | omega | (simp; done) | (simp; omega) | fail)) | refine Below.drew ?_ | exact hb0 | fail))⟩

set_option maxRecDepth 100000 in
set_option maxHeartbeats 1000000 in
theorem Leaves_good (b : Bk) (v : Value) (w : World) (hb : BookAt w.heap.size w v b) (he : errF b = 0) :
    Calls Tryz.prog 17 #[v] w fun e w' => (∃ v', e = .returned (.tuple #[v', .int .i64 0]) ∧ w'.ownsRow w.heap.size 89 4 v' (lvs b).length (lfCells (lvs b))) ∧ Below w.heap.size w w' := by
  have hb' := hb
  obtain ⟨sv, rfl, hgs⟩ := hb
  have hgs' := hgs
  obtain ⟨a, cap, rfl, -⟩ := hgs'
  have hok := errF_zero he
  have hop : openV b (.agg #[.int .i64 b.signed, .slice a b.gs.length cap]) = .tuple #[.agg #[.int .i64 b.signed, .slice a b.gs.length cap], .int .i64 0] := by simp [openV, he]
  have HG := Lib.hid hgs
  have HB := Lib.hid hb'
  clear hgs hb'
  refine (callsIn_wide (n := 10)).1 ?_
  refine callsIn_of_wp_marks Tryz.func17 rfl trivial ?_ rfl
  simp only [Tryz.ntmps17, List.size_toArray, List.length_cons, List.length_nil, Nat.reduceAdd, Nat.reduceSub, Array.replicate_succ, Array.replicate_zero, List.push_toArray, List.append_toArray, List.nil_append, List.cons_append]
  gi_wp2_with fail
  refine ⟨trivial, ?_⟩
  refine (callsIn_wide.2 (open_any b _ _ (HB.out.below (B := w.heap.size) (Below.refl _ _ |>.alloc (Nat.le_refl _) _) (Nat.le_refl _) |>.mono (by simp)))).mono ?_
  rintro e w1 ⟨rfl, hb1⟩
  rw [hop]
  have hb0 : Below w.heap.size w w1 := ((Below.refl _ w).alloc (Nat.le_refl _) _).trans (hb1.mono (by simp))
  have HB0 := Lib.hid hb0
  have hz := hb0.size
  clear hb1 hb0 hop
  gi_wp2_with fail
  refine ⟨trivial, ?_⟩
  refine (callsIn_wide.2 (volLeaves_any b.signed a b.gs.length cap _)).mono ?_
  rintro e w2 ⟨rfl, hw2⟩
  gi_wp2_with fail
  obtain ⟨V, hV⟩ : ∃ V, V = w1.heap.size := ⟨_, rfl⟩
  have hz2 : w2.heap.size = V + 3 := by rw [← hw2, hV]; simp
  have hh : Held w [] w2 := ⟨HB0.out.trans (by rw [← hw2]; exact (by repeat (first | (refine Below.setCell ?_ ?_ _; rotate_left; · (first | omega | (simp; done) | (simp; omega) | fail)) | (refine Below.alloc ?_ ?_ _; rotate_left; · (first | omega | (simp; done) | (simp; omega) | fail)) | refine Below.drew ?_ | exact Below.refl _ _ | fail))), fun p hp => by cases hp⟩
  have hL : w2.heap[V + 1]? = some (.cells #[.slice none 0 0] 47) := by rw [← hw2, hV]; exact (by repeat (first | exact heap_alloc_at _ _ _ (by (first | omega | (simp; done) | (simp; omega) | fail)) | (refine (heap_alloc_past _ _ _ ?_).trans ?_; · (first | omega | (simp; done) | (simp; omega) | fail)) | fail))
  have hvb : w2.heap[V + 2]? = some (.cells #[.int .i64 b.signed, .slice a b.gs.length cap] 57) := by rw [← hw2, hV]; exact (by repeat (first | exact heap_alloc_at _ _ _ (by (first | omega | (simp; done) | (simp; omega) | fail)) | (refine (heap_alloc_past _ _ _ ?_).trans ?_; · (first | omega | (simp; done) | (simp; omega) | fail)) | fail))
  have hVl : w.heap.size ≤ V := by omega
  have hz2a : V + 3 ≤ w2.heap.size := by omega
  have hz2b : w2.heap.size ≤ V + 3 := by omega
  simp only [World.size_alloc, ← hV]
  clear hw2 hV hz2
  have HV := Lib.hid hvb
  have HL := Lib.hid hL
  clear hvb hL
  refine rf_list (gf := 77) (lb := #[.pointer (some ⟨V + 2, 0, none⟩)]) rfl (enters_of Tryz.func77 (by kernel_rfl) rfl)
    (leaves_it b.gs b.signed a cap w2 (V + 2) w.heap.size (by omega) (HG.out.below hh.below (Nat.le_refl _)) hok.gs (by have := hok.len; omega) HV.out) (fun _ => rfl) (fun j hj => by rcases hj with h | h <;> omega)
    w [] (V + 1) 47 89 4 (fun pre => pre.length) (fun pre => lfCells (pre.map (·.1))) (fun y => .cells #[.int .i64 y.1.gat, .int .i64 y.1.num, .int .i64 y.1.plus, .int .i64 y.1.kind] 89)
    (fun y bx => [(19, .int .i64 y.2), (20, lfV y.1), (8, .pointer (some ⟨bx, 0, none⟩))]) (fun p hp => by cases hp) hh HL.out rfl rfl ?assign ?body ?done
  case assign =>
    intro l y W K' hK'
    gi_wp2_with fail
    exact hK'
  case body =>
    rintro l pre y rest bx W u hsp h1 h2 h3 hbx hlb hnb
    obtain ⟨hy, hx⟩ := zip_at hsp
    have n0 := blk_cell h2 0
    have d0 := blk_cell hbx 0; have d1 := blk_cell hbx 1; have d2 := blk_cell hbx 2; have d3 := blk_cell hbx 3
    obtain ⟨ei, hi1, hi2, hi3, hi4⟩ := elemLf
    have hlen : pre.length < 2000 := by
      have h5 := lvsFrom_len (i := 0) hok.gs
      have h6 := congrArg List.length hsp
      have := hok.len
      simp only [List.length_append, List.length_cons, List.length_zipIdx] at h6
      omega
    have ho : OnlyIn (fun _ => False) W (W.alloc (.cells #[.int .i64 y.1.gat, .int .i64 y.1.num, .int .i64 y.1.plus, .int .i64 y.1.kind] 89)) := OnlyIn.alloc _ _ _
    have H2 := Lib.hid h2
    have H3 := Lib.hid h3
    gi_wp2_with (gi_at_builtin; refine wpListIn_append_one _ rfl _ _ 47 rfl w2.heap.size 89 ei _ 4 32 undLf hi1 hi2 hi3 hi4 rfl (by decide) u pre.length (lfCells (pre.map (·.1))) rfl (H3.out.alloc _) ⟨W.heap.size, 0, none⟩ 1 [.int .i64 y.1.gat, .int .i64 y.1.num, .int .i64 y.1.plus, .int .i64 y.1.kind] rfl rfl ?c1 ?c2 ?c3 ?c4 ?c5 ?c6)
    case c1 => exact cells_new _ _ _
    case c2 => simp [Value.oneCell']
    case c3 => simp only [maxLen]; omega
    case c4 => omega
    case c5 => have := blk_lt hbx; simp; omega
    case c6 =>
      rintro g capg w' hown hgrow hg
      obtain ⟨s1, s2, s3, s4⟩ := list_step (hs := w2.heap.size) (Pr := fun k => k = V + 2 ∨ k < w.heap.size) H2.out H3.out (by decide) ho hown hgrow (by simpa using hg) (by omega) (Nat.le_refl _) (fun j hj => by have := blk_lt hbx; rcases hj with hj | hj <;> refine ⟨by omega, by omega, by omega⟩)
      have cL := blk_cell s1 0
      have fL := blk_free s1 0
      gi_wp2_with fail
      exact ⟨h1.only s4 (hs := V + 1) (fun j hj => by rcases hj with hj | hj <;> omega) (by omega) (fun p hp => by cases hp), by simpa [lfCells] using s2⟩
  case done =>
    rintro D W u hD h1 h2 h3 hdef
    have n0 := blk_cell h2 0
    gi_wp2_with fail
    have h4 := h1.put (.deferred none) (D := D) (by omega) (fun p hp => by cases hp)
    have h5 := ownsRow_putObj h3 (.deferred none) hdef rfl
    simp only [List.length_zipIdx, List.zipIdx_map_fst] at h5
    refine leave_ret hdef ⟨.tuple #[u, .int .i64 0], by simp [results, Tryz.results17, go_sem], ⟨u, rfl, ?_⟩, h4.below⟩
    exact row_mono h5 (by omega)

end Go.Proofs.YtimdmgkegdlafaaGreatDoor
