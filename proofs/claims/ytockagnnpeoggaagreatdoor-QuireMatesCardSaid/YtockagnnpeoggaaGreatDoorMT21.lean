/- The parts Qn of the proof, joined. It holds without conditions of its own. -/
import Derived.Test.YtockagnnpeoggaaGreatDoorMT20
import Derived.Test.YtockagnnpeoggaaGreatDoorMT12
/- The leaf with a number. -/
namespace Go.Proofs.YtockagnnpeoggaaGreatDoor
set_option linter.unusedSimpArgs false
set_option linter.unusedVariables false
open Go Go.RowKit Go.Sort Go.BigFrame Go.Shelf
attribute [local go_sem] Oper.semAt_some

def getL {α : Type} (xs : List α) (n : Int) : Option α := if n < 0 then none else xs[n.toNat]?
def leafR : Option Lf → Value
  | some x => .tuple #[lfV x, .bool true]
  | none => .tuple #[.agg #[.int .i64 0, .int .i64 0, .int .i64 0, .int .i64 0], .bool false]
theorem zip_at {xs : List Lf} {pre rest : List (Lf × Nat)} {y : Lf × Nat} (h : xs.zipIdx = pre ++ y :: rest) : y.2 = pre.length ∧ xs[pre.length]? = some y.1 := by
  have h1 : xs.zipIdx[pre.length]? = some y := by rw [h]; simp
  rw [List.getElem?_zipIdx] at h1
  cases hx : xs[pre.length]? with
  | none => rw [hx] at h1; cases h1
  | some z => rw [hx] at h1; simp only [Option.map_some, Option.some.injEq] at h1; subst h1; exact ⟨by simp, rfl⟩

set_option maxRecDepth 100000 in
set_option maxHeartbeats 1000000 in
theorem leaf_any (b : Bk) (v : Value) (n : Int) (w : World) (hb : BookAt w.heap.size w v b) (he : errF b = 0) :
    Calls Tryz.prog 34 #[v, .int .i64 n] w fun e w' => e = .returned (leafR (getL (lvs b) n)) ∧ Below w.heap.size w w' := by
  obtain ⟨sv, rfl, hgs⟩ := hb
  have hgs' := hgs
  obtain ⟨a, cap, rfl, -⟩ := hgs'
  have hok := errF_zero he
  refine (callsIn_wide (n := 10)).1 ?_
  refine callsIn_of_wp_marks Tryz.func34 rfl trivial ?_ rfl
  simp only [Tryz.ntmps34, List.size_toArray, List.length_cons, List.length_nil, Nat.reduceAdd, Nat.reduceSub, Array.replicate_succ, Array.replicate_zero, List.push_toArray, List.append_toArray, List.nil_append, List.cons_append]
  have HG := Lib.hid hgs
  clear hgs
  gi_wp2_with fail
  refine ⟨trivial, ?_⟩
  refine (callsIn_wide.2 (volLeaves_any b.signed a b.gs.length cap _)).mono ?_
  rintro e w1 ⟨rfl, hw1⟩
  gi_wp2_with fail
  obtain ⟨K, hK⟩ : ∃ K, K = w.heap.size := ⟨_, rfl⟩
  have hz1 : w1.heap.size = K + 5 := by rw [← hw1, hK]; simp
  have hh : Held w [(K + 1, .cells #[.int .i64 n] 3), (K + 2, .cells #[.int .i64 0, .int .i64 0, .int .i64 0, .int .i64 0] 68), (K + 3, .cells #[.bool false] 4)] w1 := by
    subst hK
    refine ⟨by rw [← hw1]; exact (by repeat (first | (refine Below.setCell ?_ ?_ _; rotate_left; · (first | omega | (simp; done) | (simp; omega) | fail)) | (refine Below.alloc ?_ ?_ _; rotate_left; · (first | omega | (simp; done) | (simp; omega) | fail)) | refine Below.drew ?_ | exact Below.refl _ _ | fail)), fun p hp => ?_⟩
    simp only [List.mem_cons, List.not_mem_nil, or_false] at hp
    rw [← hw1]
    rcases hp with rfl | rfl | rfl <;> exact (by repeat (first | exact heap_alloc_at _ _ _ (by (first | omega | (simp; done) | (simp; omega) | fail)) | (refine (heap_alloc_past _ _ _ ?_).trans ?_; · (first | omega | (simp; done) | (simp; omega) | fail)) | fail))
  have hvb : w1.heap[K + 4]? = some (.cells #[.int .i64 b.signed, .slice a b.gs.length cap] 64) := by rw [← hw1, hK]; exact (by repeat (first | exact heap_alloc_at _ _ _ (by (first | omega | (simp; done) | (simp; omega) | fail)) | (refine (heap_alloc_past _ _ _ ?_).trans ?_; · (first | omega | (simp; done) | (simp; omega) | fail)) | fail))
  simp only [World.size_alloc, ← hK]
  have hKl : w.heap.size ≤ K := by omega
  clear hw1 hK
  have HV := Lib.hid hvb
  clear hvb
  refine rf_law (gf := 66) (lb := #[.pointer (some ⟨K + 4, 0, none⟩)]) rfl (enters_of Tryz.func66 (by kernel_rfl) rfl)
    (leaves_it b.gs b.signed a cap w1 (K + 4) w.heap.size (by omega) (HG.out.below hh.below (Nat.le_refl _)) hok.gs (by have := hok.len; omega) HV.out) (fun _ => rfl) (fun j hj => by rcases hj with h | h <;> omega)
    (fun pre W => Held w [(K + 1, .cells #[.int .i64 n] 3), (K + 2, .cells #[.int .i64 0, .int .i64 0, .int .i64 0, .int .i64 0] 68), (K + 3, .cells #[.bool false] 4)] W ∧ ¬ (0 ≤ n ∧ n < pre.length))
    (fun c _ W => c = .ret ∧ ∃ x, getL (lvs b) n = some x ∧ Held w [(K + 2, .cells #[.int .i64 x.gat, .int .i64 x.num, .int .i64 x.plus, .int .i64 x.kind] 68), (K + 3, .cells #[.bool true] 4)] W)
    (fun _ _ => False) (fun y => .cells #[.int .i64 y.1.gat, .int .i64 y.1.num, .int .i64 y.1.plus, .int .i64 y.1.kind] 68)
    (fun y bx => { tmps := #[.agg #[.int .i64 b.signed, .slice a b.gs.length cap], .int .i64 n, .pointer (some ⟨K, 0, none⟩), .pointer (some ⟨K + 1, 0, none⟩), .pointer (some ⟨K + 2, 0, none⟩), .pointer (some ⟨K + 3, 0, none⟩), .int .i64 y.2, .pointer (some ⟨bx, 0, none⟩), .agg #[.int .i64 b.signed, .slice a b.gs.length cap], .func (.func 66) #[] #[.pointer (some ⟨K + 4, 0, none⟩)], .int .i64 y.2, lfV y.1, undef, undef, undef, undef, undef], defers := [] })
    (fun _ _ _ _ h => h.elim) ?hI ?hIx ⟨hh, by simp⟩ ?assign ?body ?done ?stop
  case hI =>
    rintro pre X W W' ⟨h1, h2⟩ ho hX
    refine ⟨⟨h1.only ho (hs := w1.heap.size) (fun k h => (hX k h).1) (by omega) (fun p hp => ?_), h2⟩, fun k h => h.elim⟩
    simp only [List.mem_cons, List.not_mem_nil, or_false] at hp
    rcases hp with rfl | rfl | rfl <;> (simp only; omega)
  case hIx =>
    rintro c pre X W W' ⟨h0, x, h1, h2⟩ ho hX
    refine ⟨h0, x, h1, h2.only ho (hs := w1.heap.size) hX (by omega) (fun p hp => ?_)⟩
    simp only [List.mem_cons, List.not_mem_nil, or_false] at hp
    rcases hp with rfl | rfl <;> (simp only; omega)
  case assign =>
    intro l y W K' hK'
    gi_wp2_with fail
    exact hK'
  case body =>
    rintro l pre y rest bx W hsp ⟨h1, h2⟩ hbx hlb -
    obtain ⟨hy, hx⟩ := zip_at hsp
    have n0 := blk_cell (h1.get 0 rfl) 0
    by_cases hn : (y.2 : Int) = n
    · have r := h1.get 1 rfl
      have s := h1.get 2 rfl
      have d0 := blk_cell hbx 0; have d1 := blk_cell hbx 1; have d2 := blk_cell hbx 2; have d3 := blk_cell hbx 3
      have r0 := blk_cell r 0; have r1 := blk_cell r 1; have r2 := blk_cell r 2; have r3 := blk_cell r 3
      have f0 := blk_free r 0; have f1 := blk_free r 1; have f2 := blk_free r 2; have f3 := blk_free r 3
      have s0 := blk_cell s 0
      have g0 := blk_free s 0
      gi_wp2_with fail
      refine ⟨Turn.of (X := fun k => k = K + 2 ∨ k = K + 3) (by repeat (first | exact OnlyIn.refl _ _ | refine OnlyIn.trans ?_ (OnlyIn.setCell _ _ _ (by simp)) | refine OnlyIn.trans ?_ (OnlyIn.alloc _ _ _) | refine OnlyIn.trans ?_ (OnlyIn.drew _ _) | fail)) (fun k hk => ?_) (fun k hk => ?_), rfl, y.1, ?_, h1.below.trans ?_, fun p hp => ?_⟩
      · have := h1.below.size
        rcases hk with rfl | rfl <;> exact ⟨by omega, fun h => by rcases h with h | h <;> omega⟩
      · have := h1.below.size
        have := blk_lt hbx
        rcases hk with rfl | hk <;> omega
      · unfold getL; rw [if_neg (by omega), show n.toNat = pre.length by omega]; exact hx
      · have hb0 := Below.refl w.heap.size W
        have := h1.below.size
        exact (by repeat (first | (refine Below.setCell ?_ ?_ _; rotate_left; · (first | omega | (simp; done) | (simp; omega) | fail)) | (refine Below.alloc ?_ ?_ _; rotate_left; · (first | omega | (simp; done) | (simp; omega) | fail)) | refine Below.drew ?_ | exact hb0 | fail))
      · (simp only [List.mem_cons, List.not_mem_nil, or_false] at hp)
        rcases hp with rfl | rfl <;> dsimp only
        · exact (heap_setCell_past _ ⟨K + 3, 0, none⟩ _ (K + 2) (by simp)).trans (blk_set4 r _ _ _ _)
        · refine blk_set1 (a := .bool false) ?_ _
          exact (by repeat (first | (refine (heap_setCell_past _ _ _ _ ?_).trans ?_; · (first | omega | (simp; done) | (simp; omega) | fail)) | (refine (heap_alloc_past _ _ _ ?_).trans ?_; · (first | omega | (simp; done) | (simp; omega) | fail)) | exact s | fail))
    · gi_wp2_with fail
      refine ⟨Turn.refl _ _ _ _, h1, ?_⟩
      simp only [List.length_append, List.length_cons, List.length_nil]
      omega
  case done =>
    rintro D W hD ⟨h1, h2⟩ hdef
    have r := h1.get 1 rfl
    have s := h1.get 2 rfl
    have r0 := blk_cell r 0; have r1 := blk_cell r 1; have r2 := blk_cell r 2; have r3 := blk_cell r 3
    have f0 := blk_free r 0; have f1 := blk_free r 1; have f2 := blk_free r 2; have f3 := blk_free r 3
    have s0 := blk_cell s 0
    have g0 := blk_free s 0
    have hKW := h1.below.size
    gi_wp2_with fail
    have h4 : Held w [(K + 1 + 1, .cells #[.int .i64 0, .int .i64 0, .int .i64 0, .int .i64 0] 68), (K + 1 + 1 + 1, .cells #[.bool false] 4)] (((((W.setCell ⟨K + 1 + 1, 0, none⟩ (.int .i64 0)).setCell ⟨K + 1 + 1, 1, none⟩ (.int .i64 0)).setCell ⟨K + 1 + 1, 2, none⟩ (.int .i64 0)).setCell ⟨K + 1 + 1, 3, none⟩ (.int .i64 0)).setCell ⟨K + 1 + 1 + 1, 0, none⟩ (.bool false)) := by
      refine ⟨h1.below.trans ?_, fun p hp => ?_⟩
      · have hb0 := Below.refl w.heap.size W
        exact (by repeat (first | (refine Below.setCell ?_ ?_ _; rotate_left; · (first | omega | (simp; done) | (simp; omega) | fail)) | (refine Below.alloc ?_ ?_ _; rotate_left; · (first | omega | (simp; done) | (simp; omega) | fail)) | refine Below.drew ?_ | exact hb0 | fail))
      · (simp only [List.mem_cons, List.not_mem_nil, or_false] at hp)
        rcases hp with rfl | rfl <;> dsimp only
        · exact (heap_setCell_past _ ⟨K + 1 + 1 + 1, 0, none⟩ _ (K + 1 + 1) (by simp)).trans (blk_set4 r _ _ _ _)
        · refine blk_set1 (a := .bool false) ?_ _
          exact (by repeat (first | (refine (heap_setCell_past _ _ _ _ ?_).trans ?_; · (first | omega | (simp; done) | (simp; omega) | fail)) | (refine (heap_alloc_past _ _ _ ?_).trans ?_; · (first | omega | (simp; done) | (simp; omega) | fail)) | exact s | fail))
    have h3 := h4.put (.deferred none) (D := D) (by omega) (fun p hp => by (simp only [List.mem_cons, List.not_mem_nil, or_false] at hp); rcases hp with rfl | rfl <;> (simp only; omega))
    have hdef' : (((((W.setCell ⟨K + 1 + 1, 0, none⟩ (.int .i64 0)).setCell ⟨K + 1 + 1, 1, none⟩ (.int .i64 0)).setCell ⟨K + 1 + 1, 2, none⟩ (.int .i64 0)).setCell ⟨K + 1 + 1, 3, none⟩ (.int .i64 0)).setCell ⟨K + 1 + 1 + 1, 0, none⟩ (.bool false)).heap[D]? = some (.deferred (some [])) := by exact (by repeat (first | (refine (heap_setCell_past _ _ _ _ ?_).trans ?_; · (first | omega | (simp; done) | (simp; omega) | fail)) | (refine (heap_alloc_past _ _ _ ?_).trans ?_; · (first | omega | (simp; done) | (simp; omega) | fail)) | exact hdef | fail))
    have r := h3.get 0 rfl
    have s := h3.get 1 rfl
    have r0 := blk_cell r 0; have r1 := blk_cell r 1; have r2 := blk_cell r 2; have r3 := blk_cell r 3
    have s0 := blk_cell s 0
    refine leave_ret hdef' ⟨leafR none, by simp [leafR, results, Tryz.results34, go_sem, r0, r1, r2, r3, s0], ?_⟩
    have hN : getL (lvs b) n = none := by
      rw [List.length_zipIdx] at h2
      unfold getL
      split
      · rfl
      · exact List.getElem?_eq_none (by unfold lvs; omega)
    rw [hN]
    exact ⟨rfl, h3.below⟩
  case stop =>
    rintro D c pre W hD ⟨rfl, x, h1, h2⟩ hdef
    gi_wp2_with fail
    have h3 := h2.put (.deferred none) (D := D) (by omega) (fun p hp => by (simp only [List.mem_cons, List.not_mem_nil, or_false] at hp); rcases hp with rfl | rfl <;> (simp only; omega))
    have r := h3.get 0 rfl
    have s := h3.get 1 rfl
    have r0 := blk_cell r 0; have r1 := blk_cell r 1; have r2 := blk_cell r 2; have r3 := blk_cell r 3
    have s0 := blk_cell s 0
    refine leave_ret hdef ⟨leafR (some x), by simp [leafR, lfV, results, Tryz.results34, go_sem, r0, r1, r2, r3, s0], ?_⟩
    rw [h1]
    exact ⟨rfl, h3.below⟩

end Go.Proofs.YtockagnnpeoggaaGreatDoor
