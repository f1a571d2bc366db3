/- The parts Kc of the proof, joined. It holds without conditions of its own. -/
import Derived.Test.YtlekbddlemfokaaDoorKM47
import Derived.Deep.RegionHeld3
import Derived.Deep.AppendLies
import Derived.Deep.DrawnRows
/- QuireKnown's law: the examples of the document. -/
namespace Go.Proofs.YtlekbddlemfokaaDoor
set_option linter.unusedSimpArgs false
set_option linter.unusedVariables false
open Go Go.RowKit Go.Sort Go.BigFrame Go.Shelf
attribute [local go_sem] Oper.semAt_some putAll

/-- The book 'A8 B8 $0', and what is said of it and of the examples' book. -/
def twoB : Bk := ⟨0, [⟨1, 0, 8, []⟩, ⟨1, 1, 8, []⟩]⟩
theorem kn_read : readF [65, 56, 32, 66, 56, 32, 36, 48] = (twoB, 0) := by kernel_rfl
theorem kn_err : errF twoB = 0 := by kernel_rfl
theorem kn_write : writeF twoB = [65, 45, 66, 56, 32, 36, 48] := by kernel_rfl
theorem kn_leaf0 : leafTR (exBook 0) (getL (lvs (exBook 0)) 0) = .tuple #[S [112, 105, 49], .int .i64 0] := by kernel_rfl
theorem kn_leaf1 : leafTR (exBook 0) (getL (lvs (exBook 0)) 2) = .tuple #[S [65, 49], .int .i64 0] := by kernel_rfl
theorem kn_leaf2 : leafTR (exBook 0) (getL (lvs (exBook 0)) 9) = .tuple #[S [65, 56], .int .i64 0] := by kernel_rfl
theorem kn_leaf3 : leafTR (exBook 0) (getL (lvs (exBook 0)) 10) = .tuple #[S [66, 49], .int .i64 0] := by kernel_rfl
theorem kn_leaf4 : leafTR (exBook 0) (getL (lvs (exBook 0)) 29) = .tuple #[S [68, 53], .int .i64 0] := by kernel_rfl
theorem kn_leaf5 : leafTR (exBook 0) (getL (lvs (exBook 0)) 34) = .tuple #[S [99, 104, 105, 49], .int .i64 0] := by kernel_rfl
theorem kn_form : findR (exBook 0) [68, 48, 51] = .tuple #[.int .i64 0, .int .i64 6] := by kernel_rfl
theorem kn_mate0 : mateR (mateF (exBook 0) 0) = .tuple #[.int .i64 1, .int .i64 0] := by kernel_rfl
theorem kn_mate2 : mateR (mateF (exBook 0) 2) = .tuple #[.int .i64 9, .int .i64 0] := by kernel_rfl
theorem kn_mate30 : mateR (mateF (exBook 0) 30) = .tuple #[.int .i64 0, .int .i64 4] := by kernel_rfl
theorem kn_mate28 : mateR (mateF (exBook 0) 28) = .tuple #[.int .i64 0, .int .i64 4] := by kernel_rfl
def exOther : Bk := ⟨4, [⟨1, 23, 2, []⟩, ⟨1, 0, 8, []⟩, ⟨1, 1, 8, []⟩, ⟨1, 2, 8, []⟩, ⟨1, 3, 8, [⟨1, 3, 0⟩, ⟨3, 8, 1⟩]⟩, ⟨1, 24, 1, []⟩]⟩
theorem kn_errO : errF exOther = 0 := by kernel_rfl
theorem kn_same : differR (diffAt 0 (namesF (exBook 0)) (namesF exOther)) = .tuple #[.int .i64 0, .int .i64 4] := by kernel_rfl

theorem news_pre {w : World} {B : Nat} {cs : Array Value} {t : TypeId} {news : List Value} (hb : w.heap[B]? = some (.cells cs t)) (hp : news <+: cs.toList) : ∀ j u, news[j]? = some u → w.cell? ((⟨B, 0, none⟩ : Addr).add j) = some u := fun j u hu => by
  obtain ⟨r, hr⟩ := hp
  refine World.news_of_block hb j u ?_
  rw [← hr, List.getElem?_append_left (List.getElem?_eq_some_iff.1 hu).1]
  exact hu
theorem field_bk (H : Nat) (W : World) : (Instr.field 24 (.agg #[.int .i64 4, .slice (some ⟨H, 0, none⟩) 6 6]) 1).run Tryd.prog W = .ok (.slice (some ⟨H, 0, none⟩) 6 6) W := by kernel_rfl
theorem exOther_at {w : World} {H G c : Nat} {f : TypeId} (h : ∀ j v, ([.int .i64 1, .int .i64 3, .int .i64 0, .int .i64 3, .int .i64 8, .int .i64 1] : List Value)[j]? = some v → w.cell? ⟨H, j, none⟩ = some v) (hH : H < w.heap.size)
    (hg : w.heap[G]? = some (.cells (exCells (.slice (some ⟨H, 0, none⟩) 2 c)) f)) (hG : G < w.heap.size) :
    BookAt w.heap.size w (.agg #[.int .i64 4, .slice (some ⟨G, 0, none⟩) 6 6]) exOther := by
  refine ⟨_, rfl, some ⟨G, 0, none⟩, 6, rfl, fun _ => ⟨G, 0, rfl, hG, fun i g hi => ?_⟩⟩
  have hh : ∀ j v, (exCells (.slice (some ⟨H, 0, none⟩) 2 c))[j]? = some v → w.cell? ⟨G, j, none⟩ = some v := fun j v hv => by simp [World.cell?, hg, hv]
  rcases i with _ | _ | _ | _ | _ | _ | i
  · cases hi; exact ⟨_, exChs_nil, hh _ _ rfl, hh _ _ rfl, hh _ _ rfl, hh _ _ rfl⟩
  · cases hi; exact ⟨_, exChs_nil, hh _ _ rfl, hh _ _ rfl, hh _ _ rfl, hh _ _ rfl⟩
  · cases hi; exact ⟨_, exChs_nil, hh _ _ rfl, hh _ _ rfl, hh _ _ rfl, hh _ _ rfl⟩
  · cases hi; exact ⟨_, exChs_nil, hh _ _ rfl, hh _ _ rfl, hh _ _ rfl, hh _ _ rfl⟩
  · cases hi
    refine ⟨.slice (some ⟨H, 0, none⟩) 2 c, ⟨_, _, rfl, fun _ => ⟨H, 0, rfl, hH, fun i x hx => ?_⟩⟩, hh _ _ rfl, hh _ _ rfl, hh _ _ rfl, hh _ _ rfl⟩
    rcases i with _ | _ | i
    · cases hx; exact ⟨h _ _ rfl, h _ _ rfl, h _ _ rfl⟩
    · cases hx; exact ⟨h _ _ rfl, h _ _ rfl, h _ _ rfl⟩
    · simp at hx
  · cases hi; exact ⟨_, exChs_nil, hh _ _ rfl, hh _ _ rfl, hh _ _ rfl, hh _ _ rfl⟩
  · simp [exOther] at hi
/-- The examples' book, in its box. -/
structure KnB (w W : World) (X : Nat) (a : Option Addr) (cap : Nat) : Prop where
  box : W.heap[X]? = some (.cells #[.int .i64 4, .slice a 6 cap] 24)
  book : BookAt W.heap.size W (.agg #[.int .i64 4, .slice a 6 cap]) (exBook 0)
  below : Below w.heap.size w W
theorem KnB.later {w W W' : World} {X : Nat} {a : Option Addr} {cap : Nat} (h : KnB w W X a cap) (hb : Below W.heap.size W W') : KnB w W' X a cap :=
  ⟨blk_later hb h.box, (h.book.below hb (Nat.le_refl _)).mono hb.size, h.below.trans (hb.mono h.below.size)⟩
/-- The same, with the two lists of the loop. -/
structure KnL (w W : World) (X : Nat) (a : Option Addr) (cap A : Nat) : Prop extends KnB w W X a cap where
  at_ : W.heap[A]? = some (.cells #[.int .i64 0, .int .i64 2, .int .i64 9, .int .i64 10, .int .i64 29, .int .i64 34] 3)
  nm : W.heap[A + 1]? = some (.cells #[.string { data := #[112, 105, 49] }, .string { data := #[65, 49] }, .string { data := #[65, 56] }, .string { data := #[66, 49] }, .string { data := #[68, 53] }, .string { data := #[99, 104, 105, 49] }] 9)
theorem KnL.later {w W W' : World} {X A : Nat} {a : Option Addr} {cap : Nat} (h : KnL w W X a cap A) (hb : Below W.heap.size W W') : KnL w W' X a cap A :=
  ⟨h.toKnB.later hb, blk_later hb h.at_, blk_later hb h.nm⟩

set_option maxRecDepth 100000 in
set_option maxHeartbeats 4000000 in
theorem QuireKnown_any (w : World) :
    Calls Tryd.prog 3 #[] w fun e w' => e = .returned (.bool true) ∧ Below w.heap.size w w' := by
  go_enter Tryd.func3, Tryd.ntmps3
  go_wp2_with fail
  refine (lawBook_0 _).mono ?_
  rintro e w1 ⟨⟨v, rfl, hbk⟩, hb0⟩
  have hbk' := hbk
  obtain ⟨sv, rfl, hgs⟩ := hbk'
  obtain ⟨a, cap, rfl, -⟩ := hgs
  have hz1 := hb0.size
  have HK1 : Hid (KnB w (w1.alloc (.cells #[.int .i64 4, .slice a 6 cap] 24)) w1.heap.size a cap) := Lib.hid ⟨by exact (by repeat (first | exact heap_alloc_at _ _ _ (by (first | omega | (simp; done) | (simp; omega) | fail)) | (refine (heap_alloc_past _ _ _ ?_).trans ?_; · (first | omega | (simp; done) | (simp; omega) | fail)) | fail)), (hbk.below (B := w1.heap.size) (C := w1.heap.size) (by exact (by repeat (first | (refine Below.setCell ?_ ?_ _; rotate_left; · (first | omega | (simp; done) | (simp; omega) | fail)) | (refine Below.alloc ?_ ?_ _; rotate_left; · (first | omega | (simp; done) | (simp; omega) | fail)) | refine Below.drew ?_ | exact Below.refl _ _ | fail))) (Nat.le_refl _)).mono (by simp), by exact (by repeat (first | (refine Below.setCell ?_ ?_ _; rotate_left; · (first | omega | (simp; done) | (simp; omega) | fail)) | (refine Below.alloc ?_ ?_ _; rotate_left; · (first | omega | (simp; done) | (simp; omega) | fail)) | refine Below.drew ?_ | exact hb0 | fail))⟩
  have e1 : (exBook 0).signed = 4 := rfl
  have e2 : (exBook 0).gs.length = 6 := rfl
  clear hbk hb0
  rw [e1, e2]
  clear e1 e2
  go_wp2_with fail
  refine (Read_any [65, 56, 32, 66, 56, 32, 36, 48] _ (by decide)).mono ?_
  rintro e w2 ⟨⟨rv, rfl, hrd⟩, hb⟩
  generalize w1.heap.size = X at *
  have HK2 := Lib.hid (HK1.out.later hb)
  clear hb HK1
  rw [kn_read] at hrd
  have hrd' := hrd.at_
  obtain ⟨rs, rfl, hrg⟩ := hrd'
  obtain ⟨ra, rcap, rfl, -⟩ := hrg
  have HR2 : Hid (BookAt w2.heap.size w2 (.agg #[.int .i64 0, .slice ra 2 rcap]) twoB) := Lib.hid hrd.at_
  clear hrd
  change Hid _ at HR2
  rw [kn_read]
  dsimp only
  rw [show twoB.signed = 0 from rfl, show twoB.gs.length = 2 from rfl]
  go_wp2_with fail
  refine (Write_good twoB _ _ (HR2.out.below (B := w2.heap.size) (C := w2.heap.size) (by exact (by repeat (first | (refine Below.setCell ?_ ?_ _; rotate_left; · (first | omega | (simp; done) | (simp; omega) | fail)) | (refine Below.alloc ?_ ?_ _; rotate_left; · (first | omega | (simp; done) | (simp; omega) | fail)) | refine Below.drew ?_ | exact Below.refl _ _ | fail))) (Nat.le_refl _) |>.mono (by simp)) kn_err).mono ?_
  rintro e w3 ⟨rfl, hb⟩
  rw [kn_write]
  have HK3 := Lib.hid (HK2.out.later (Below.trans (show Below w2.heap.size w2 _ by exact (by repeat (first | (refine Below.setCell ?_ ?_ _; rotate_left; · (first | omega | (simp; done) | (simp; omega) | fail)) | (refine Below.alloc ?_ ?_ _; rotate_left; · (first | omega | (simp; done) | (simp; omega) | fail)) | refine Below.drew ?_ | exact Below.refl _ _ | fail))) (hb.mono (by simp; try omega))))
  clear hb
  clear HR2 HK2
  go_wp2_with fail
  have HN : Hid (KnL w ((w3.alloc (.cells #[.int .i64 0, .int .i64 2, .int .i64 9, .int .i64 10, .int .i64 29, .int .i64 34] 3)).alloc (.cells #[.string { data := #[112, 105, 49] }, .string { data := #[65, 49] }, .string { data := #[65, 56] }, .string { data := #[66, 49] }, .string { data := #[68, 53] }, .string { data := #[99, 104, 105, 49] }] 9)) X a cap w3.heap.size) := Lib.hid ⟨HK3.out.later (by exact (by repeat (first | (refine Below.setCell ?_ ?_ _; rotate_left; · (first | omega | (simp; done) | (simp; omega) | fail)) | (refine Below.alloc ?_ ?_ _; rotate_left; · (first | omega | (simp; done) | (simp; omega) | fail)) | refine Below.drew ?_ | exact Below.refl _ _ | fail))), by exact (by repeat (first | exact heap_alloc_at _ _ _ (by (first | omega | (simp; done) | (simp; omega) | fail)) | (refine (heap_alloc_past _ _ _ ?_).trans ?_; · (first | omega | (simp; done) | (simp; omega) | fail)) | fail)), by exact (by repeat (first | exact heap_alloc_at _ _ _ (by (first | omega | (simp; done) | (simp; omega) | fail)) | (refine (heap_alloc_past _ _ _ ?_).trans ?_; · (first | omega | (simp; done) | (simp; omega) | fail)) | fail))⟩
  clear HK3
  revert HN
  generalize ((w3.alloc (.cells #[.int .i64 0, .int .i64 2, .int .i64 9, .int .i64 10, .int .i64 29, .int .i64 34] 3)).alloc (.cells #[.string { data := #[112, 105, 49] }, .string { data := #[65, 49] }, .string { data := #[65, 56] }, .string { data := #[66, 49] }, .string { data := #[68, 53] }, .string { data := #[99, 104, 105, 49] }] 9)) = w5
  generalize w3.heap.size = A
  intro HN
  go_loopw [8] (fun i wr => ∃ (k : Nat), k ≤ 6 ∧ i = .int .i64 k ∧ Hid (KnL w wr X a cap A)) (fun i _ => 6 - (intOf i).toNat)
  case atStart => exact ⟨0, by omega, rfl, HN⟩
  case round =>
    obtain ⟨k, hk, rfl, hN⟩ := hrel
    clear HN
    by_cases hlt : k < 6
    · obtain hk0 | hk0 | hk0 | hk0 | hk0 | hk0 : k = 0 ∨ k = 1 ∨ k = 2 ∨ k = 3 ∨ k = 4 ∨ k = 5 := by omega
      · skip
        clear hk
        subst hk0
        have hN' := hN
        clear hN
        have c0 := blk_cell hN'.out.box 0; have c1 := blk_cell hN'.out.box 1
        have x0 := blk_cell hN'.out.at_ 0
        have HL := Lib.hid (kn_leaf0)
        have r0 := cell_regrown c0
        have r1 := cell_regrown c1
        have r2 := cell_regrown x0
        have cL : ∀ d os, Calls Tryd.prog 8 #[.agg #[.int .i64 4, .slice a 6 cap], .int .i64 0] (grow (redrawn wr d) os) (fun e w'' => e = .returned (.tuple #[S [112, 105, 49], .int .i64 0]) ∧ ∃ p : Regrown, w'' = grow (redrawn wr p.d) p.os) := fun d os => Calls.regrown_of (by
          refine (Leaf_good (exBook 0) _ 0 _ ((hN'.out.later (below_regrown wr d os)).book) ex_err0).mono ?_
          rintro e w6 ⟨rfl, hb⟩
          exact ⟨by rw [HL.out], hb⟩)
        clear c0 c1 x0
        go_wp2_with fail
        refine wp_region_quiet_below (by kernel_rfl) (by kernel_rfl) ?_; (repeat (go_big_quiet_step (exact cL _ _))); refine wpQuiet_nil ?_; rintro w8 ⟨⟨d8, os8⟩, rfl⟩
        clear r0 r1 r2 cL HL
        have HN8 := Lib.hid (hN'.out.later (below_regrown wr d8 os8))
        generalize grow (redrawn wr d8) os8 = w8 at *
        have y0 := blk_cell HN8.out.nm 0
        go_wp2_with fail
        go_roundw
        case rel => exact ⟨0 + 1, by omega, by go_num, HN8⟩
        case measure => simp [intOf] <;> omega
      · skip
        clear hk
        subst hk0
        have hN' := hN
        clear hN
        have c0 := blk_cell hN'.out.box 0; have c1 := blk_cell hN'.out.box 1
        have x0 := blk_cell hN'.out.at_ 1
        have HL := Lib.hid (kn_leaf1)
        have r0 := cell_regrown c0
        have r1 := cell_regrown c1
        have r2 := cell_regrown x0
        have cL : ∀ d os, Calls Tryd.prog 8 #[.agg #[.int .i64 4, .slice a 6 cap], .int .i64 2] (grow (redrawn wr d) os) (fun e w'' => e = .returned (.tuple #[S [65, 49], .int .i64 0]) ∧ ∃ p : Regrown, w'' = grow (redrawn wr p.d) p.os) := fun d os => Calls.regrown_of (by
          refine (Leaf_good (exBook 0) _ 2 _ ((hN'.out.later (below_regrown wr d os)).book) ex_err0).mono ?_
          rintro e w6 ⟨rfl, hb⟩
          exact ⟨by rw [HL.out], hb⟩)
        clear c0 c1 x0
        go_wp2_with fail
        refine wp_region_quiet_below (by kernel_rfl) (by kernel_rfl) ?_; (repeat (go_big_quiet_step (exact cL _ _))); refine wpQuiet_nil ?_; rintro w8 ⟨⟨d8, os8⟩, rfl⟩
        clear r0 r1 r2 cL HL
        have HN8 := Lib.hid (hN'.out.later (below_regrown wr d8 os8))
        generalize grow (redrawn wr d8) os8 = w8 at *
        have y0 := blk_cell HN8.out.nm 1
        go_wp2_with fail
        go_roundw
        case rel => exact ⟨1 + 1, by omega, by go_num, HN8⟩
        case measure => simp [intOf] <;> omega
      · skip
        clear hk
        subst hk0
        have hN' := hN
        clear hN
        have c0 := blk_cell hN'.out.box 0; have c1 := blk_cell hN'.out.box 1
        have x0 := blk_cell hN'.out.at_ 2
        have HL := Lib.hid (kn_leaf2)
        have r0 := cell_regrown c0
        have r1 := cell_regrown c1
        have r2 := cell_regrown x0
        have cL : ∀ d os, Calls Tryd.prog 8 #[.agg #[.int .i64 4, .slice a 6 cap], .int .i64 9] (grow (redrawn wr d) os) (fun e w'' => e = .returned (.tuple #[S [65, 56], .int .i64 0]) ∧ ∃ p : Regrown, w'' = grow (redrawn wr p.d) p.os) := fun d os => Calls.regrown_of (by
          refine (Leaf_good (exBook 0) _ 9 _ ((hN'.out.later (below_regrown wr d os)).book) ex_err0).mono ?_
          rintro e w6 ⟨rfl, hb⟩
          exact ⟨by rw [HL.out], hb⟩)
        clear c0 c1 x0
        go_wp2_with fail
        refine wp_region_quiet_below (by kernel_rfl) (by kernel_rfl) ?_; (repeat (go_big_quiet_step (exact cL _ _))); refine wpQuiet_nil ?_; rintro w8 ⟨⟨d8, os8⟩, rfl⟩
        clear r0 r1 r2 cL HL
        have HN8 := Lib.hid (hN'.out.later (below_regrown wr d8 os8))
        generalize grow (redrawn wr d8) os8 = w8 at *
        have y0 := blk_cell HN8.out.nm 2
        go_wp2_with fail
        go_roundw
        case rel => exact ⟨2 + 1, by omega, by go_num, HN8⟩
        case measure => simp [intOf] <;> omega
      · skip
        clear hk
        subst hk0
        have hN' := hN
        clear hN
        have c0 := blk_cell hN'.out.box 0; have c1 := blk_cell hN'.out.box 1
        have x0 := blk_cell hN'.out.at_ 3
        have HL := Lib.hid (kn_leaf3)
        have r0 := cell_regrown c0
        have r1 := cell_regrown c1
        have r2 := cell_regrown x0
        have cL : ∀ d os, Calls Tryd.prog 8 #[.agg #[.int .i64 4, .slice a 6 cap], .int .i64 10] (grow (redrawn wr d) os) (fun e w'' => e = .returned (.tuple #[S [66, 49], .int .i64 0]) ∧ ∃ p : Regrown, w'' = grow (redrawn wr p.d) p.os) := fun d os => Calls.regrown_of (by
          refine (Leaf_good (exBook 0) _ 10 _ ((hN'.out.later (below_regrown wr d os)).book) ex_err0).mono ?_
          rintro e w6 ⟨rfl, hb⟩
          exact ⟨by rw [HL.out], hb⟩)
        clear c0 c1 x0
        go_wp2_with fail
        refine wp_region_quiet_below (by kernel_rfl) (by kernel_rfl) ?_; (repeat (go_big_quiet_step (exact cL _ _))); refine wpQuiet_nil ?_; rintro w8 ⟨⟨d8, os8⟩, rfl⟩
        clear r0 r1 r2 cL HL
        have HN8 := Lib.hid (hN'.out.later (below_regrown wr d8 os8))
        generalize grow (redrawn wr d8) os8 = w8 at *
        have y0 := blk_cell HN8.out.nm 3
        go_wp2_with fail
        go_roundw
        case rel => exact ⟨3 + 1, by omega, by go_num, HN8⟩
        case measure => simp [intOf] <;> omega
      · skip
        clear hk
        subst hk0
        have hN' := hN
        clear hN
        have c0 := blk_cell hN'.out.box 0; have c1 := blk_cell hN'.out.box 1
        have x0 := blk_cell hN'.out.at_ 4
        have HL := Lib.hid (kn_leaf4)
        have r0 := cell_regrown c0
        have r1 := cell_regrown c1
        have r2 := cell_regrown x0
        have cL : ∀ d os, Calls Tryd.prog 8 #[.agg #[.int .i64 4, .slice a 6 cap], .int .i64 29] (grow (redrawn wr d) os) (fun e w'' => e = .returned (.tuple #[S [68, 53], .int .i64 0]) ∧ ∃ p : Regrown, w'' = grow (redrawn wr p.d) p.os) := fun d os => Calls.regrown_of (by
          refine (Leaf_good (exBook 0) _ 29 _ ((hN'.out.later (below_regrown wr d os)).book) ex_err0).mono ?_
          rintro e w6 ⟨rfl, hb⟩
          exact ⟨by rw [HL.out], hb⟩)
        clear c0 c1 x0
        go_wp2_with fail
        refine wp_region_quiet_below (by kernel_rfl) (by kernel_rfl) ?_; (repeat (go_big_quiet_step (exact cL _ _))); refine wpQuiet_nil ?_; rintro w8 ⟨⟨d8, os8⟩, rfl⟩
        clear r0 r1 r2 cL HL
        have HN8 := Lib.hid (hN'.out.later (below_regrown wr d8 os8))
        generalize grow (redrawn wr d8) os8 = w8 at *
        have y0 := blk_cell HN8.out.nm 4
        go_wp2_with fail
        go_roundw
        case rel => exact ⟨4 + 1, by omega, by go_num, HN8⟩
        case measure => simp [intOf] <;> omega
      · skip
        clear hk
        subst hk0
        have hN' := hN
        clear hN
        have c0 := blk_cell hN'.out.box 0; have c1 := blk_cell hN'.out.box 1
        have x0 := blk_cell hN'.out.at_ 5
        have HL := Lib.hid (kn_leaf5)
        have r0 := cell_regrown c0
        have r1 := cell_regrown c1
        have r2 := cell_regrown x0
        have cL : ∀ d os, Calls Tryd.prog 8 #[.agg #[.int .i64 4, .slice a 6 cap], .int .i64 34] (grow (redrawn wr d) os) (fun e w'' => e = .returned (.tuple #[S [99, 104, 105, 49], .int .i64 0]) ∧ ∃ p : Regrown, w'' = grow (redrawn wr p.d) p.os) := fun d os => Calls.regrown_of (by
          refine (Leaf_good (exBook 0) _ 34 _ ((hN'.out.later (below_regrown wr d os)).book) ex_err0).mono ?_
          rintro e w6 ⟨rfl, hb⟩
          exact ⟨by rw [HL.out], hb⟩)
        clear c0 c1 x0
        go_wp2_with fail
        refine wp_region_quiet_below (by kernel_rfl) (by kernel_rfl) ?_; (repeat (go_big_quiet_step (exact cL _ _))); refine wpQuiet_nil ?_; rintro w8 ⟨⟨d8, os8⟩, rfl⟩
        clear r0 r1 r2 cL HL
        have HN8 := Lib.hid (hN'.out.later (below_regrown wr d8 os8))
        generalize grow (redrawn wr d8) os8 = w8 at *
        have y0 := blk_cell HN8.out.nm 5
        go_wp2_with fail
        go_roundw
        case rel => exact ⟨5 + 1, by omega, by go_num, HN8⟩
        case measure => simp [intOf] <;> omega
    · have hk6 : k = 6 := by omega
      subst hk6
      clear hk hlt
      have HK4 := Lib.hid hN.out.toKnB
      clear hN
      generalize wr = w4 at *
      try clear c0 c1
      have c0 := blk_cell HK4.out.box 0; have c1 := blk_cell HK4.out.box 1
      go_wp2_with fail
      refine (Find_good (exBook 0) _ [68, 48, 51] _ (HK4.out.later (by exact (by repeat (first | (refine Below.setCell ?_ ?_ _; rotate_left; · (first | omega | (simp; done) | (simp; omega) | fail)) | (refine Below.alloc ?_ ?_ _; rotate_left; · (first | omega | (simp; done) | (simp; omega) | fail)) | refine Below.drew ?_ | exact Below.refl _ _ | fail)))).book ex_err0).mono ?_
      rintro e w5' ⟨rfl, hb⟩
      rw [kn_form]
      have HK5 := Lib.hid (HK4.out.later hb)
      clear hb HK4
      generalize w5' = w5 at *
      try clear c0 c1
      have c0 := blk_cell HK5.out.box 0; have c1 := blk_cell HK5.out.box 1
      go_wp2_with fail
      refine (Mate_good (exBook 0) _ 0 _ (HK5.out.later (by exact (by repeat (first | (refine Below.setCell ?_ ?_ _; rotate_left; · (first | omega | (simp; done) | (simp; omega) | fail)) | (refine Below.alloc ?_ ?_ _; rotate_left; · (first | omega | (simp; done) | (simp; omega) | fail)) | refine Below.drew ?_ | exact Below.refl _ _ | fail)))).book ex_err0).mono ?_
      rintro e w6 ⟨rfl, hb⟩
      rw [kn_mate0]
      have HK6 := Lib.hid (HK5.out.later hb)
      clear hb HK5
      try clear c0 c1
      have c0 := blk_cell HK6.out.box 0; have c1 := blk_cell HK6.out.box 1
      go_wp2_with fail
      refine (Mate_good (exBook 0) _ 2 _ (HK6.out.later (by exact (by repeat (first | (refine Below.setCell ?_ ?_ _; rotate_left; · (first | omega | (simp; done) | (simp; omega) | fail)) | (refine Below.alloc ?_ ?_ _; rotate_left; · (first | omega | (simp; done) | (simp; omega) | fail)) | refine Below.drew ?_ | exact Below.refl _ _ | fail)))).book ex_err0).mono ?_
      rintro e w7 ⟨rfl, hb⟩
      rw [kn_mate2]
      have HK7 := Lib.hid (HK6.out.later hb)
      clear hb HK6
      try clear c0 c1
      have c0 := blk_cell HK7.out.box 0; have c1 := blk_cell HK7.out.box 1
      go_wp2_with fail
      refine (Mate_good (exBook 0) _ 30 _ (HK7.out.later (by exact (by repeat (first | (refine Below.setCell ?_ ?_ _; rotate_left; · (first | omega | (simp; done) | (simp; omega) | fail)) | (refine Below.alloc ?_ ?_ _; rotate_left; · (first | omega | (simp; done) | (simp; omega) | fail)) | refine Below.drew ?_ | exact Below.refl _ _ | fail)))).book ex_err0).mono ?_
      rintro e w8 ⟨rfl, hb⟩
      rw [kn_mate30]
      have HK8 := Lib.hid (HK7.out.later hb)
      clear hb HK7
      try clear c0 c1
      have c0 := blk_cell HK8.out.box 0; have c1 := blk_cell HK8.out.box 1
      go_wp2_with fail
      refine (Mate_good (exBook 0) _ 28 _ (HK8.out.later (by exact (by repeat (first | (refine Below.setCell ?_ ?_ _; rotate_left; · (first | omega | (simp; done) | (simp; omega) | fail)) | (refine Below.alloc ?_ ?_ _; rotate_left; · (first | omega | (simp; done) | (simp; omega) | fail)) | refine Below.drew ?_ | exact Below.refl _ _ | fail)))).book ex_err0).mono ?_
      rintro e w9 ⟨rfl, hb⟩
      rw [kn_mate28]
      have HK9 := Lib.hid (HK8.out.later hb)
      clear hb HK8
      try clear c0 c1
      have c0 := blk_cell HK9.out.box 0; have c1 := blk_cell HK9.out.box 1
      go_wp2_with fail
      refine (lawBookC_1 _).mono ?_
      rintro e w10 ⟨⟨G, C, rfl, hC0, hCG, hC, hG⟩, hb⟩
      have HK10 := Lib.hid (HK9.out.later hb)
      have HZ9 := Lib.hid (show Below w9.heap.size w9 w10 from hb)
      have HC10 := Lib.hid hC
      have HG10 := Lib.hid hG
      clear hb hC hG
      try clear c0 c1
      have c0 := blk_cell HK10.out.box 0; have c1 := blk_cell HK10.out.box 1
      go_wp2_with fail
      have HX21 : Hid ((w10.alloc (.cells #[.int .i64 4, .slice (some ⟨G, 0, none⟩) 6 6] 24)).heap[w10.heap.size]? = some (.cells #[.int .i64 4, .slice (some ⟨G, 0, none⟩) 6 6] 24)) := Lib.hid (by exact (by repeat (first | exact heap_alloc_at _ _ _ (by (first | omega | (simp; done) | (simp; omega) | fail)) | (refine (heap_alloc_past _ _ _ ?_).trans ?_; · (first | omega | (simp; done) | (simp; omega) | fail)) | fail)))
      have hGl := blk_lt HG10.out
      have HG11 : Hid ((w10.alloc (.cells #[.int .i64 4, .slice (some ⟨G, 0, none⟩) 6 6] 24)).heap[G]? = some (.cells (exCells (.slice (some ⟨C, 0, none⟩) 2 3)) 41)) := Lib.hid ((heap_alloc_past _ _ _ hGl).trans HG10.out)
      have HC11 : Hid ((w10.alloc (.cells #[.int .i64 4, .slice (some ⟨G, 0, none⟩) 6 6] 24)).heap[C]? = some (.cells exChCells 43)) := Lib.hid ((heap_alloc_past _ _ _ (by omega)).trans HC10.out)
      have HZ11 : Hid (Below w9.heap.size w9 (w10.alloc (.cells #[.int .i64 4, .slice (some ⟨G, 0, none⟩) 6 6] 24))) := Lib.hid (HZ9.out.alloc HZ9.out.size _)
      have HS11 : Hid (w10.heap.size < (w10.alloc (.cells #[.int .i64 4, .slice (some ⟨G, 0, none⟩) 6 6] 24)).heap.size) := Lib.hid (by simp)
      clear c0 c1 HG10 HC10 HZ9 HK10
      revert HX21 HG11 HC11 HZ11 HS11
      generalize (w10.alloc (.cells #[.int .i64 4, .slice (some ⟨G, 0, none⟩) 6 6] 24)) = w11
      generalize w10.heap.size = O at *
      intro HX21 HG11 HC11 HZ11 HS11
      have x1 := blk_cell HX21.out 1
      have x2 := blk_cell HG11.out 19
      change w11.cell? ⟨G, 19, none⟩ = some (.slice (some ⟨C, 0, none⟩) 2 3) at x2
      have HCW : Hid ((w11.alloc (.cells #[] 43)).drew.heap[C]? = some (.cells exChCells 43)) := Lib.hid ((heap_alloc_past _ _ _ (by have := HS11.out; omega)).trans HC11.out)
      have hown0 : Hid ((w11.alloc (.cells #[] 43)).drew.ownsRow w11.heap.size 43 3 (.slice (some ⟨w11.heap.size, 0, none⟩) 0 0) 0 []) := Lib.hid ⟨rfl, Or.inr ⟨w11.heap.size, 0, #[], rfl, Nat.le_refl _, World.alloc_heap_new _ _, Nat.le_refl _, Nat.zero_le _, rfl, rfl⟩⟩
      have hnews0 : Hid (∀ j u, ([.int .i64 1, .int .i64 3, .int .i64 0] : List Value)[j]? = some u → (w11.alloc (.cells #[] 43)).drew.cell? ((⟨C, 0, none⟩ : Addr).add j) = some u) := Lib.hid (news_pre HCW.out ⟨_, rfl⟩)
      have hCG' := Lib.hid hCG
      have hGl' := Lib.hid hGl
      have hne : ¬ G = O := by omega
      have hne' : ¬ O = G := by omega
      clear hCG hGl
      have x3 : (w11.alloc (.cells #[] 43)).cell? ⟨G, 19, none⟩ = some (.slice (some ⟨C, 0, none⟩) 2 3) := (World.cell?_of_block (heap_alloc_past _ _ _ (show G < w11.heap.size by have := HS11.out; have := hGl'.out; omega))).trans x2
      obtain ⟨ei, hi1, hi2, hi3, hi4⟩ := elemChg
      have HI := Lib.hid (And.intro hi1 (And.intro hi2 (And.intro hi3 hi4)))
      clear hi1 hi2 hi3 hi4
      have hfld := field_bk
      refine wp_region_held_drew (S := (fun u => u.cell? ⟨O, 1, none⟩ = some (.slice (some ⟨G, 0, none⟩) 6 6))) (by kernel_rfl) ?_ (fun hHeld => ?_)
      · (try dsimp only); go_keep
      refine wpAnyH_take (i := 0) (v := ?_) rfl (by kernel_rfl) (by kernel_rfl) (by kernel_rfl) (fun _ _ _ h => h) (Or.inl ⟨by rfl, ?_⟩) (by assumption) ?_
      rotate_left
      · (intro w hSw; (try dsimp only at hSw); go_simp; (try with_reducible rfl))
      (try simp only [Act.put, List.setIfInBounds_toArray, List.set_cons_zero, List.set_cons_succ])
      refine wpAnyH_take (i := 1) (v := ?_) rfl (by kernel_rfl) (by kernel_rfl) (by kernel_rfl) (fun _ _ _ h => h) (Or.inl ⟨by rfl, ?_⟩) (by assumption) ?_
      rotate_left
      · (intro w hSw; (try dsimp only at hSw); go_simp; (try with_reducible rfl))
      (try simp only [Act.put, List.setIfInBounds_toArray, List.set_cons_zero, List.set_cons_succ])
      refine wpAnyH_take (i := 3) (v := ?_) rfl (by kernel_rfl) (by kernel_rfl) (by kernel_rfl) (fun _ _ _ h => h) (Or.inl ⟨by rfl, ?_⟩) (by assumption) ?_
      rotate_left
      · (intro w hSw; (try dsimp only at hSw); go_simp; (try with_reducible rfl))
      (try simp only [Act.put, List.setIfInBounds_toArray, List.set_cons_zero, List.set_cons_succ])
      refine wpAnyH_take (i := 4) (v := ?_) rfl (by kernel_rfl) (by kernel_rfl) (by kernel_rfl) (fun _ _ _ h => h) (Or.inl ⟨by rfl, ?_⟩) (by assumption) ?_
      rotate_left
      · (intro w hSw; (try dsimp only at hSw); go_simp; (try with_reducible rfl))
      (try simp only [Act.put, List.setIfInBounds_toArray, List.set_cons_zero, List.set_cons_succ])
      refine wpAnyH_take (i := 5) (v := ?_) rfl (by kernel_rfl) (by kernel_rfl) (by kernel_rfl) (fun _ _ _ h => h) (Or.inl ⟨by rfl, ?_⟩) (by assumption) ?_
      rotate_left
      · (intro w hSw; (try dsimp only at hSw); go_simp; (try with_reducible rfl))
      (try simp only [Act.put, List.setIfInBounds_toArray, List.set_cons_zero, List.set_cons_succ])
      refine wpAnyH_take (i := 6) (v := ?_) rfl (by kernel_rfl) (by kernel_rfl) (by kernel_rfl) (fun _ _ _ h => h) (Or.inl ⟨by rfl, ?_⟩) (by assumption) ?_
      rotate_left
      · (intro w hSw; (try dsimp only at hSw); go_simp; (try with_reducible rfl))
      (try simp only [Act.put, List.setIfInBounds_toArray, List.set_cons_zero, List.set_cons_succ])
      refine wpAnyH_ready (rs := [2, 7]) (by kernel_rfl) (by simp) ?_
      refine AllReadyH.cons rfl (fun K hK => ?_) ?_
      · go_simp
        refine hK.out _ _ ?_ (fun hNew => ?_)
        · (try dsimp only); go_keep
        clear hK K hHeld
        have hHeld := hNew
        clear hNew
        (try simp only [Act.put, List.setIfInBounds_toArray, List.set_cons_zero, List.set_cons_succ])
        refine wpAnyH_ready (rs := [7]) (by kernel_rfl) (by simp) ?_
        refine AllReadyH.cons rfl (fun K hK => ?_) AllReadyH.nil
        go_simp
        refine hK.out _ _ ?_ (fun hNew => ?_)
        · (try dsimp only); go_keep
        clear hK K hHeld
        have hHeld := hNew
        clear hNew
        (try simp only [Act.put, List.setIfInBounds_toArray, List.set_cons_zero, List.set_cons_succ])
        refine wpAnyH_take (i := 8) (v := ?_) rfl (by kernel_rfl) (by kernel_rfl) (by kernel_rfl) (fun _ _ _ h => h) (Or.inl ⟨by rfl, ?_⟩) (by assumption) ?_
        rotate_left
        · (intro w hSw; (try dsimp only at hSw); go_simp; (try with_reducible rfl))
        (try simp only [Act.put, List.setIfInBounds_toArray, List.set_cons_zero, List.set_cons_succ])
        refine wpAnyH_ready (rs := [9]) (by kernel_rfl) (by simp) ?_
        refine AllReadyH.cons rfl (fun K hK => ?_) AllReadyH.nil
        refine step_append_lies _ (by rfl) _ _ _ (by rfl) w11.heap.size 43 ei _ 3 24 undChgs HI.out.1 HI.out.2.1 HI.out.2.2.1 HI.out.2.2.2 (by rfl) (by decide) (.slice (some ⟨w11.heap.size, 0, none⟩) 0 0) 0 [] (by rfl) hown0.out ⟨C, 0, none⟩ 1 3 [.int .i64 1, .int .i64 3, .int .i64 0] (by rfl) (by rfl) hnews0.out (by simp [Value.oneCell']) (by decide) (by decide) (by decide) (by simp) _ rfl ?_
        intro g1 cap1 w12 hown1 hgrow1 hat1 hlt1
        have HO12 := Lib.hid hown1
        have HB12 := Lib.hid (((Below.refl w11.heap.size w11).alloc (Nat.le_refl _) (.cells #[] 43)).drew.grown hgrow1 (by simp) (fun k hk => by cases hk; exact Nat.le_refl _))
        have s12 : w12.cell? ⟨O, 1, none⟩ = some (.slice (some ⟨G, 0, none⟩) 6 6) := (HB12.out.cell (p := ⟨O, 1, none⟩) HS11.out).trans x1
        clear hown1 hgrow1 hat1 hlt1
        refine hK.out _ _ ?_ (fun hNew => ?_)
        · (try dsimp only); go_keep
        clear hK K hHeld
        have hHeld := hNew
        clear hNew
        (try simp only [Act.put, List.setIfInBounds_toArray, List.set_cons_zero, List.set_cons_succ])
        refine wpAnyH_ready (rs := [10]) (by kernel_rfl) (by simp) ?_
        refine AllReadyH.cons rfl (fun K hK => ?_) AllReadyH.nil
        go_simp
        refine (lawBookC_0 _).mono ?_
        rintro e w13 ⟨⟨G2, C2, rfl, hC2, hCG2, hc2, hg2⟩, hb2⟩
        have HO13 := Lib.hid (row_later HO12.out hb2)
        have HB13 := Lib.hid (HB12.out.trans (hb2.mono HB12.out.size))
        have s13 : w13.cell? ⟨O, 1, none⟩ = some (.slice (some ⟨G, 0, none⟩) 6 6) := (HB13.out.cell (p := ⟨O, 1, none⟩) HS11.out).trans x1
        have y19 : w13.cell? ⟨G2, 19, none⟩ = some (.slice (some ⟨C2, 0, none⟩) 3 3) := blk_cell hg2 19
        have y6 : w13.cell? ⟨C2, 6, none⟩ = some (.int .i64 3) := blk_cell hc2 6
        have y7 : w13.cell? ⟨C2, 7, none⟩ = some (.int .i64 8) := blk_cell hc2 7
        have y8 : w13.cell? ⟨C2, 8, none⟩ = some (.int .i64 1) := blk_cell hc2 8
        clear hC2 hCG2 hc2 hg2 hb2 s12
        go_wp2_with fail
        refine hK.out _ _ ?_ (fun hNew => ?_)
        · (try dsimp only); go_keep
        clear hK K hHeld
        have hHeld := hNew
        clear hNew
        (try simp only [Act.put, List.setIfInBounds_toArray, List.set_cons_zero, List.set_cons_succ])
        refine wpAnyH_take (i := 11) (v := ?_) rfl (by kernel_rfl) (by kernel_rfl) (by kernel_rfl) (fun _ _ _ h => h) (Or.inl ⟨by rfl, ?_⟩) (by assumption) ?_
        rotate_left
        · (intro w hSw; (try dsimp only at hSw); go_simp; (try with_reducible rfl))
        (try simp only [Act.put, List.setIfInBounds_toArray, List.set_cons_zero, List.set_cons_succ])
        refine wpAnyH_take (i := 12) (v := ?_) rfl (by kernel_rfl) (by kernel_rfl) (by kernel_rfl) (fun _ _ _ h => h) (Or.inl ⟨by rfl, ?_⟩) (by assumption) ?_
        rotate_left
        · (intro w hSw; (try dsimp only at hSw); go_simp; (try with_reducible rfl))
        (try simp only [Act.put, List.setIfInBounds_toArray, List.set_cons_zero, List.set_cons_succ])
        refine wpAnyH_take (i := 13) (v := ?_) rfl (by kernel_rfl) (by kernel_rfl) (by kernel_rfl) (fun _ _ _ h => h) (Or.inl ⟨by rfl, ?_⟩) (by assumption) ?_
        rotate_left
        · (intro w hSw; (try dsimp only at hSw); go_simp; (try with_reducible rfl))
        (try simp only [Act.put, List.setIfInBounds_toArray, List.set_cons_zero, List.set_cons_succ])
        refine wpAnyH_ready (rs := [14]) (by kernel_rfl) (by simp) ?_
        refine AllReadyH.cons rfl (fun K hK => ?_) AllReadyH.nil
        go_simp
        refine hK.out _ _ ?_ (fun hNew => ?_)
        · (try dsimp only); go_keep
        clear hK K hHeld
        have hHeld := hNew
        clear hNew
        (try simp only [Act.put, List.setIfInBounds_toArray, List.set_cons_zero, List.set_cons_succ])
        refine wpAnyH_take (i := 15) (v := ?_) rfl (by kernel_rfl) (by kernel_rfl) (by kernel_rfl) (fun _ _ _ h => h) (Or.inl ⟨by rfl, ?_⟩) (by assumption) ?_
        rotate_left
        · (intro w hSw; (try dsimp only at hSw); go_simp; (try with_reducible rfl))
        (try simp only [Act.put, List.setIfInBounds_toArray, List.set_cons_zero, List.set_cons_succ])
        refine wpAnyH_ready (rs := [16]) (by kernel_rfl) (by simp) ?_
        refine AllReadyH.cons rfl (fun K hK => ?_) AllReadyH.nil
        go_simp
        refine hK.out _ _ ?_ (fun hNew => ?_)
        · (try dsimp only); go_keep
        clear hK K hHeld
        have hHeld := hNew
        clear hNew
        (try simp only [Act.put, List.setIfInBounds_toArray, List.set_cons_zero, List.set_cons_succ])
        refine wpAnyH_ready (rs := [17]) (by kernel_rfl) (by simp) ?_
        refine AllReadyH.cons rfl (fun K hK => ?_) AllReadyH.nil
        go_simp
        refine hK.out _ _ ?_ (fun hNew => ?_)
        · (try dsimp only); go_keep
        clear hK K hHeld
        have hHeld := hNew
        clear hNew
        (try simp only [Act.put, List.setIfInBounds_toArray, List.set_cons_zero, List.set_cons_succ])
        refine wpAnyH_ready (rs := [18]) (by kernel_rfl) (by simp) ?_
        refine AllReadyH.cons rfl (fun K hK => ?_) AllReadyH.nil
        refine step_append_lies _ (by rfl) _ _ _ (by rfl) w11.heap.size 43 ei _ 3 24 undChgs HI.out.1 HI.out.2.1 HI.out.2.2.1 HI.out.2.2.2 (by rfl) (by decide) (.slice (some ⟨g1, 0, none⟩) (0 + 1) cap1) (0 + 1) ([] ++ [.int .i64 1, .int .i64 3, .int .i64 0]) (by rfl) (HO13.out.alloc _) ⟨w13.heap.size, 0, none⟩ 1 1 [.int .i64 3, .int .i64 8, .int .i64 1] (by rfl) (by rfl) (cells_new _ _ _) (by simp [Value.oneCell']) (by decide) (by decide) (by decide) (by have := HB13.out.size; simp; omega) _ rfl ?_
        intro g2 cap2 w14 hown2 hgrow2 hat2 hlt2
        have HO14 := Lib.hid hown2
        have HB14 := Lib.hid ((HB13.out.alloc HB13.out.size (.cells #[.int .i64 3, .int .i64 8, .int .i64 1] 43)).grown hgrow2 (by have := HB13.out.size; simp; omega) (fun k hk => by cases hk; exact (HO13.out.lt _ rfl).1))
        have s14 : w14.cell? ⟨O, 1, none⟩ = some (.slice (some ⟨G, 0, none⟩) 6 6) := (HB14.out.cell (p := ⟨O, 1, none⟩) HS11.out).trans x1
        have HG14 : Hid (w14.heap[G]? = some (.cells (exCells (.slice (some ⟨C, 0, none⟩) 2 3)) 41)) := Lib.hid ((HB14.out.block G (by have := HS11.out; have := hGl'.out; omega)).trans HG11.out)
        have f19 := blk_free HG14.out 19
        have z19 : w14.cell? ⟨G, 19, none⟩ = some (.slice (some ⟨C, 0, none⟩) 2 3) := blk_cell HG14.out 19
        clear hown2 hgrow2 hat2 hlt2 s13 y19 y6 y7 y8
        refine hK.out _ _ ?_ (fun hNew => ?_)
        · (try dsimp only); go_keep
        clear hK K hHeld
        have hHeld := hNew
        clear hNew
        (try simp only [Act.put, List.setIfInBounds_toArray, List.set_cons_zero, List.set_cons_succ])
        refine wpAnyH_take (i := 19) (v := ?_) rfl (by kernel_rfl) (by kernel_rfl) (by kernel_rfl) (fun _ _ _ h => h) (Or.inl ⟨by rfl, ?_⟩) (by assumption) ?_
        rotate_left
        · (intro w hSw; (try dsimp only at hSw); go_simp; (try with_reducible rfl))
        (try simp only [Act.put, List.setIfInBounds_toArray, List.set_cons_zero, List.set_cons_succ])
        refine wpAnyH_take (i := 20) (v := ?_) rfl (by kernel_rfl) (by kernel_rfl) (by kernel_rfl) (fun _ _ _ h => h) (Or.inl ⟨by rfl, ?_⟩) (by assumption) ?_
        rotate_left
        · (intro w hSw; (try dsimp only at hSw); go_simp; (try with_reducible rfl))
        (try simp only [Act.put, List.setIfInBounds_toArray, List.set_cons_zero, List.set_cons_succ])
        refine wpAnyH_ready (rs := [21]) (by kernel_rfl) (by simp) ?_
        refine AllReadyH.cons rfl (fun K hK => ?_) AllReadyH.nil
        go_simp
        refine hK.out _ _ ?_ (fun hNew => ?_)
        · (try dsimp only); go_keep
        clear hK K hHeld
        have hHeld := hNew
        clear hNew
        (try simp only [Act.put, List.setIfInBounds_toArray, List.set_cons_zero, List.set_cons_succ])
        refine wpAnyH_done (by kernel_rfl) ?_ _
        clear x1 x2 x3 s14 z19 f19 hne hne' hfld
        have HGl : Hid (G < w14.heap.size) := Lib.hid (blk_lt HG14.out)
        obtain ⟨w15, hw15⟩ : ∃ w15, w15 = w14.setCell ⟨G, 19, none⟩ (.slice (some ⟨g2, 0, none⟩) 2 cap2) := ⟨_, rfl⟩
        have hsz15 : w15.heap.size = w14.heap.size := by rw [hw15]; simp
        have HB15 : Hid (Below w9.heap.size w9 w15) := Lib.hid (by
          rw [hw15]
          exact (HZ11.out.trans (HB14.out.mono HZ11.out.size)).setCell (show w9.heap.size ≤ G by have := hCG'.out; omega) _)
        have HX15 : Hid (w15.heap[O]? = some (.cells #[.int .i64 4, .slice (some ⟨G, 0, none⟩) 6 6] 24)) := Lib.hid (by
          rw [hw15]
          exact (heap_setCell_past _ _ _ _ (by have := hGl'.out; show O ≠ G; omega)).trans ((HB14.out.block O HS11.out).trans HX21.out))
        have HG15 : Hid (w15.heap[G]? = some (.cells (exCells (.slice (some ⟨g2, 0, none⟩) 2 cap2)) 41)) := Lib.hid (by
          rw [hw15]
          exact blk_set HG14.out 19 _)
        have hg2 := HO14.out.cells (g := g2) rfl
        have hg2l := HO14.out.lt g2 rfl
        have HC15 : Hid (∀ j v, ([.int .i64 1, .int .i64 3, .int .i64 0, .int .i64 3, .int .i64 8, .int .i64 1] : List Value)[j]? = some v → w15.cell? ⟨g2, j, none⟩ = some v) := Lib.hid (fun j v hv => by
          have h1 := hg2 j v hv
          rw [hw15]
          have h2 : (⟨g2, 0, none⟩ : Addr).add j = ⟨g2, j, none⟩ := by unfold Addr.add; split <;> simp_all
          rw [h2] at h1
          exact (World.cell?_of_block (heap_setCell_past _ _ _ _ (show g2 ≠ G by have := HS11.out; have := hGl'.out; omega))).trans h1)
        have HK15 := Lib.hid (HK9.out.later HB15.out)
        have HR15 : Hid (BookAt w15.heap.size w15 (.agg #[.int .i64 4, .slice (some ⟨G, 0, none⟩) 6 6]) exOther) := Lib.hid (exOther_at HC15.out (by rw [hsz15]; exact hg2l.2) HG15.out (blk_lt HG15.out))
        rw [← hw15]
        clear hw15 hg2 hg2l hsz15 HO12 HB12 HO13 HB13 HO14 HB14 HG14 HX21 HG11 HC11 HZ11 HS11 HCW hown0 hnews0 HI HGl hCG' hGl' HG15 HC15 HB15 HK9
        have c0 := blk_cell HK15.out.box 0; have c1 := blk_cell HK15.out.box 1
        have d0 := blk_cell HX15.out 0; have d1 := blk_cell HX15.out 1
        go_wp2_with fail
        refine (Differ_good (exBook 0) exOther _ _ _ HK15.out.book HR15.out ex_err0 kn_errO).mono ?_
        rintro e w16 ⟨rfl, hb⟩
        rw [kn_same]
        have HQ16 := Lib.hid (HK15.out.below.trans (hb.mono HK15.out.below.size))
        clear hb HK15 HX15 HR15 c0 c1 d0 d1
        go_wp2_with fail
        refine (lawSig_any 3 24 _).mono ?_
        rintro e w17 ⟨rfl, hb⟩
        have hq16 := HQ16.out.size
        have HQ17 := Lib.hid (Below.trans (show Below w.heap.size w _ by exact (by repeat (first | (refine Below.setCell ?_ ?_ _; rotate_left; · (first | omega | (simp; done) | (simp; omega) | fail)) | (refine Below.alloc ?_ ?_ _; rotate_left; · (first | omega | (simp; done) | (simp; omega) | fail)) | refine Below.drew ?_ | exact HQ16.out | fail))) (hb.mono (by have := HQ16.out.size; simp; try omega)))
        clear hb HQ16
        go_wp2_with fail
        refine (Sig_good 3 24 _ (by decide)).mono ?_
        rintro e w18 ⟨rfl, hb⟩
        have hq17 := HQ17.out.size
        have HQ18 := Lib.hid (Below.trans (show Below w.heap.size w _ by exact (by repeat (first | (refine Below.setCell ?_ ?_ _; rotate_left; · (first | omega | (simp; done) | (simp; omega) | fail)) | (refine Below.alloc ?_ ?_ _; rotate_left; · (first | omega | (simp; done) | (simp; omega) | fail)) | refine Below.drew ?_ | exact HQ17.out | fail))) (hb.mono (by have := HQ17.out.size; simp; try omega)))
        clear hb HQ17
        rw [show sigT 3 24 = [51, 99, 104, 105] from by decide]
        go_wp2_with fail
        refine (lawSig_any 3 22 _).mono ?_
        rintro e w19 ⟨rfl, hb⟩
        have hq18 := HQ18.out.size
        have HQ19 := Lib.hid (Below.trans (show Below w.heap.size w _ by exact (by repeat (first | (refine Below.setCell ?_ ?_ _; rotate_left; · (first | omega | (simp; done) | (simp; omega) | fail)) | (refine Below.alloc ?_ ?_ _; rotate_left; · (first | omega | (simp; done) | (simp; omega) | fail)) | refine Below.drew ?_ | exact HQ18.out | fail))) (hb.mono (by have := HQ18.out.size; simp; try omega)))
        clear hb HQ18
        go_wp2_with fail
        refine (Next_letter 3 22 _ (by decide) (by decide) 4 0 (by decide) false (by decide) (.tuple #[.agg #[.int .i64 0, .int .i64 0], .int .i64 4]) rfl).mono ?_
        rintro e w20 ⟨rfl, hb⟩
        have hq19 := HQ19.out.size
        have HQ20 := Lib.hid (Below.trans (show Below w.heap.size w _ by exact (by repeat (first | (refine Below.setCell ?_ ?_ _; rotate_left; · (first | omega | (simp; done) | (simp; omega) | fail)) | (refine Below.alloc ?_ ?_ _; rotate_left; · (first | omega | (simp; done) | (simp; omega) | fail)) | refine Below.drew ?_ | exact HQ19.out | fail))) (hb.mono (by have := HQ19.out.size; simp; try omega)))
        clear hb HQ19
        go_wp2_with fail
        refine (lawSig_any 1 23 _).mono ?_
        rintro e w21 ⟨rfl, hb⟩
        have hq20 := HQ20.out.size
        have HQ21 := Lib.hid (Below.trans (show Below w.heap.size w _ by exact (by repeat (first | (refine Below.setCell ?_ ?_ _; rotate_left; · (first | omega | (simp; done) | (simp; omega) | fail)) | (refine Below.alloc ?_ ?_ _; rotate_left; · (first | omega | (simp; done) | (simp; omega) | fail)) | refine Below.drew ?_ | exact HQ20.out | fail))) (hb.mono (by have := HQ20.out.size; simp; try omega)))
        clear hb HQ20
        go_wp2_with fail
        refine (Next_plain 1 23 _ (by decide) (by decide)).mono ?_
        rintro e w22 ⟨rfl, hb⟩
        have hq21 := HQ21.out.size
        have HQ22 := Lib.hid (Below.trans (show Below w.heap.size w _ by exact (by repeat (first | (refine Below.setCell ?_ ?_ _; rotate_left; · (first | omega | (simp; done) | (simp; omega) | fail)) | (refine Below.alloc ?_ ?_ _; rotate_left; · (first | omega | (simp; done) | (simp; omega) | fail)) | refine Below.drew ?_ | exact HQ21.out | fail))) (hb.mono (by have := HQ21.out.size; simp; try omega)))
        clear hb HQ21
        go_wp2_with fail
        refine (Awake_any _).mono ?_
        rintro e w23 ⟨rfl, hb⟩
        have hq22 := HQ22.out.size
        have HQ23 := Lib.hid (Below.trans (show Below w.heap.size w _ by exact (by repeat (first | (refine Below.setCell ?_ ?_ _; rotate_left; · (first | omega | (simp; done) | (simp; omega) | fail)) | (refine Below.alloc ?_ ?_ _; rotate_left; · (first | omega | (simp; done) | (simp; omega) | fail)) | refine Below.drew ?_ | exact HQ22.out | fail))) (hb.mono (by have := HQ22.out.size; simp; try omega)))
        clear hb HQ22
        go_wp2_with fail
        go_ret
        exact ⟨rfl, HQ23.out⟩
      refine AllReadyH.cons rfl (fun K hK => ?_) AllReadyH.nil
      · go_simp
        refine hK.out _ _ ?_ (fun hNew => ?_)
        · (try dsimp only); go_keep
        clear hK K hHeld
        have hHeld := hNew
        clear hNew
        (try simp only [Act.put, List.setIfInBounds_toArray, List.set_cons_zero, List.set_cons_succ])
        refine wpAnyH_take (i := 8) (v := ?_) rfl (by kernel_rfl) (by kernel_rfl) (by kernel_rfl) (fun _ _ _ h => h) (Or.inl ⟨by rfl, ?_⟩) (by assumption) ?_
        rotate_left
        · (intro w hSw; (try dsimp only at hSw); go_simp; (try with_reducible rfl))
        (try simp only [Act.put, List.setIfInBounds_toArray, List.set_cons_zero, List.set_cons_succ])
        refine wpAnyH_ready (rs := [2]) (by kernel_rfl) (by simp) ?_
        refine AllReadyH.cons rfl (fun K hK => ?_) AllReadyH.nil
        go_simp
        refine hK.out _ _ ?_ (fun hNew => ?_)
        · (try dsimp only); go_keep
        clear hK K hHeld
        have hHeld := hNew
        clear hNew
        (try simp only [Act.put, List.setIfInBounds_toArray, List.set_cons_zero, List.set_cons_succ])
        refine wpAnyH_ready (rs := [9]) (by kernel_rfl) (by simp) ?_
        refine AllReadyH.cons rfl (fun K hK => ?_) AllReadyH.nil
        refine step_append_lies _ (by rfl) _ _ _ (by rfl) w11.heap.size 43 ei _ 3 24 undChgs HI.out.1 HI.out.2.1 HI.out.2.2.1 HI.out.2.2.2 (by rfl) (by decide) (.slice (some ⟨w11.heap.size, 0, none⟩) 0 0) 0 [] (by rfl) hown0.out ⟨C, 0, none⟩ 1 3 [.int .i64 1, .int .i64 3, .int .i64 0] (by rfl) (by rfl) hnews0.out (by simp [Value.oneCell']) (by decide) (by decide) (by decide) (by simp) _ rfl ?_
        intro g1 cap1 w12 hown1 hgrow1 hat1 hlt1
        have HO12 := Lib.hid hown1
        have HB12 := Lib.hid (((Below.refl w11.heap.size w11).alloc (Nat.le_refl _) (.cells #[] 43)).drew.grown hgrow1 (by simp) (fun k hk => by cases hk; exact Nat.le_refl _))
        have s12 : w12.cell? ⟨O, 1, none⟩ = some (.slice (some ⟨G, 0, none⟩) 6 6) := (HB12.out.cell (p := ⟨O, 1, none⟩) HS11.out).trans x1
        clear hown1 hgrow1 hat1 hlt1
        refine hK.out _ _ ?_ (fun hNew => ?_)
        · (try dsimp only); go_keep
        clear hK K hHeld
        have hHeld := hNew
        clear hNew
        (try simp only [Act.put, List.setIfInBounds_toArray, List.set_cons_zero, List.set_cons_succ])
        refine wpAnyH_ready (rs := [10]) (by kernel_rfl) (by simp) ?_
        refine AllReadyH.cons rfl (fun K hK => ?_) AllReadyH.nil
        go_simp
        refine (lawBookC_0 _).mono ?_
        rintro e w13 ⟨⟨G2, C2, rfl, hC2, hCG2, hc2, hg2⟩, hb2⟩
        have HO13 := Lib.hid (row_later HO12.out hb2)
        have HB13 := Lib.hid (HB12.out.trans (hb2.mono HB12.out.size))
        have s13 : w13.cell? ⟨O, 1, none⟩ = some (.slice (some ⟨G, 0, none⟩) 6 6) := (HB13.out.cell (p := ⟨O, 1, none⟩) HS11.out).trans x1
        have y19 : w13.cell? ⟨G2, 19, none⟩ = some (.slice (some ⟨C2, 0, none⟩) 3 3) := blk_cell hg2 19
        have y6 : w13.cell? ⟨C2, 6, none⟩ = some (.int .i64 3) := blk_cell hc2 6
        have y7 : w13.cell? ⟨C2, 7, none⟩ = some (.int .i64 8) := blk_cell hc2 7
        have y8 : w13.cell? ⟨C2, 8, none⟩ = some (.int .i64 1) := blk_cell hc2 8
        clear hC2 hCG2 hc2 hg2 hb2 s12
        go_wp2_with fail
        refine hK.out _ _ ?_ (fun hNew => ?_)
        · (try dsimp only); go_keep
        clear hK K hHeld
        have hHeld := hNew
        clear hNew
        (try simp only [Act.put, List.setIfInBounds_toArray, List.set_cons_zero, List.set_cons_succ])
        refine wpAnyH_take (i := 11) (v := ?_) rfl (by kernel_rfl) (by kernel_rfl) (by kernel_rfl) (fun _ _ _ h => h) (Or.inl ⟨by rfl, ?_⟩) (by assumption) ?_
        rotate_left
        · (intro w hSw; (try dsimp only at hSw); go_simp; (try with_reducible rfl))
        (try simp only [Act.put, List.setIfInBounds_toArray, List.set_cons_zero, List.set_cons_succ])
        refine wpAnyH_take (i := 12) (v := ?_) rfl (by kernel_rfl) (by kernel_rfl) (by kernel_rfl) (fun _ _ _ h => h) (Or.inl ⟨by rfl, ?_⟩) (by assumption) ?_
        rotate_left
        · (intro w hSw; (try dsimp only at hSw); go_simp; (try with_reducible rfl))
        (try simp only [Act.put, List.setIfInBounds_toArray, List.set_cons_zero, List.set_cons_succ])
        refine wpAnyH_take (i := 13) (v := ?_) rfl (by kernel_rfl) (by kernel_rfl) (by kernel_rfl) (fun _ _ _ h => h) (Or.inl ⟨by rfl, ?_⟩) (by assumption) ?_
        rotate_left
        · (intro w hSw; (try dsimp only at hSw); go_simp; (try with_reducible rfl))
        (try simp only [Act.put, List.setIfInBounds_toArray, List.set_cons_zero, List.set_cons_succ])
        refine wpAnyH_ready (rs := [14]) (by kernel_rfl) (by simp) ?_
        refine AllReadyH.cons rfl (fun K hK => ?_) AllReadyH.nil
        go_simp
        refine hK.out _ _ ?_ (fun hNew => ?_)
        · (try dsimp only); go_keep
        clear hK K hHeld
        have hHeld := hNew
        clear hNew
        (try simp only [Act.put, List.setIfInBounds_toArray, List.set_cons_zero, List.set_cons_succ])
        refine wpAnyH_take (i := 15) (v := ?_) rfl (by kernel_rfl) (by kernel_rfl) (by kernel_rfl) (fun _ _ _ h => h) (Or.inl ⟨by rfl, ?_⟩) (by assumption) ?_
        rotate_left
        · (intro w hSw; (try dsimp only at hSw); go_simp; (try with_reducible rfl))
        (try simp only [Act.put, List.setIfInBounds_toArray, List.set_cons_zero, List.set_cons_succ])
        refine wpAnyH_ready (rs := [16]) (by kernel_rfl) (by simp) ?_
        refine AllReadyH.cons rfl (fun K hK => ?_) AllReadyH.nil
        go_simp
        refine hK.out _ _ ?_ (fun hNew => ?_)
        · (try dsimp only); go_keep
        clear hK K hHeld
        have hHeld := hNew
        clear hNew
        (try simp only [Act.put, List.setIfInBounds_toArray, List.set_cons_zero, List.set_cons_succ])
        refine wpAnyH_ready (rs := [17]) (by kernel_rfl) (by simp) ?_
        refine AllReadyH.cons rfl (fun K hK => ?_) AllReadyH.nil
        go_simp
        refine hK.out _ _ ?_ (fun hNew => ?_)
        · (try dsimp only); go_keep
        clear hK K hHeld
        have hHeld := hNew
        clear hNew
        (try simp only [Act.put, List.setIfInBounds_toArray, List.set_cons_zero, List.set_cons_succ])
        refine wpAnyH_ready (rs := [18]) (by kernel_rfl) (by simp) ?_
        refine AllReadyH.cons rfl (fun K hK => ?_) AllReadyH.nil
        refine step_append_lies _ (by rfl) _ _ _ (by rfl) w11.heap.size 43 ei _ 3 24 undChgs HI.out.1 HI.out.2.1 HI.out.2.2.1 HI.out.2.2.2 (by rfl) (by decide) (.slice (some ⟨g1, 0, none⟩) (0 + 1) cap1) (0 + 1) ([] ++ [.int .i64 1, .int .i64 3, .int .i64 0]) (by rfl) (HO13.out.alloc _) ⟨w13.heap.size, 0, none⟩ 1 1 [.int .i64 3, .int .i64 8, .int .i64 1] (by rfl) (by rfl) (cells_new _ _ _) (by simp [Value.oneCell']) (by decide) (by decide) (by decide) (by have := HB13.out.size; simp; omega) _ rfl ?_
        intro g2 cap2 w14 hown2 hgrow2 hat2 hlt2
        have HO14 := Lib.hid hown2
        have HB14 := Lib.hid ((HB13.out.alloc HB13.out.size (.cells #[.int .i64 3, .int .i64 8, .int .i64 1] 43)).grown hgrow2 (by have := HB13.out.size; simp; omega) (fun k hk => by cases hk; exact (HO13.out.lt _ rfl).1))
        have s14 : w14.cell? ⟨O, 1, none⟩ = some (.slice (some ⟨G, 0, none⟩) 6 6) := (HB14.out.cell (p := ⟨O, 1, none⟩) HS11.out).trans x1
        have HG14 : Hid (w14.heap[G]? = some (.cells (exCells (.slice (some ⟨C, 0, none⟩) 2 3)) 41)) := Lib.hid ((HB14.out.block G (by have := HS11.out; have := hGl'.out; omega)).trans HG11.out)
        have f19 := blk_free HG14.out 19
        have z19 : w14.cell? ⟨G, 19, none⟩ = some (.slice (some ⟨C, 0, none⟩) 2 3) := blk_cell HG14.out 19
        clear hown2 hgrow2 hat2 hlt2 s13 y19 y6 y7 y8
        refine hK.out _ _ ?_ (fun hNew => ?_)
        · (try dsimp only); go_keep
        clear hK K hHeld
        have hHeld := hNew
        clear hNew
        (try simp only [Act.put, List.setIfInBounds_toArray, List.set_cons_zero, List.set_cons_succ])
        refine wpAnyH_take (i := 19) (v := ?_) rfl (by kernel_rfl) (by kernel_rfl) (by kernel_rfl) (fun _ _ _ h => h) (Or.inl ⟨by rfl, ?_⟩) (by assumption) ?_
        rotate_left
        · (intro w hSw; (try dsimp only at hSw); go_simp; (try with_reducible rfl))
        (try simp only [Act.put, List.setIfInBounds_toArray, List.set_cons_zero, List.set_cons_succ])
        refine wpAnyH_take (i := 20) (v := ?_) rfl (by kernel_rfl) (by kernel_rfl) (by kernel_rfl) (fun _ _ _ h => h) (Or.inl ⟨by rfl, ?_⟩) (by assumption) ?_
        rotate_left
        · (intro w hSw; (try dsimp only at hSw); go_simp; (try with_reducible rfl))
        (try simp only [Act.put, List.setIfInBounds_toArray, List.set_cons_zero, List.set_cons_succ])
        refine wpAnyH_ready (rs := [21]) (by kernel_rfl) (by simp) ?_
        refine AllReadyH.cons rfl (fun K hK => ?_) AllReadyH.nil
        go_simp
        refine hK.out _ _ ?_ (fun hNew => ?_)
        · (try dsimp only); go_keep
        clear hK K hHeld
        have hHeld := hNew
        clear hNew
        (try simp only [Act.put, List.setIfInBounds_toArray, List.set_cons_zero, List.set_cons_succ])
        refine wpAnyH_done (by kernel_rfl) ?_ _
        clear x1 x2 x3 s14 z19 f19 hne hne' hfld
        have HGl : Hid (G < w14.heap.size) := Lib.hid (blk_lt HG14.out)
        obtain ⟨w15, hw15⟩ : ∃ w15, w15 = w14.setCell ⟨G, 19, none⟩ (.slice (some ⟨g2, 0, none⟩) 2 cap2) := ⟨_, rfl⟩
        have hsz15 : w15.heap.size = w14.heap.size := by rw [hw15]; simp
        have HB15 : Hid (Below w9.heap.size w9 w15) := Lib.hid (by
          rw [hw15]
          exact (HZ11.out.trans (HB14.out.mono HZ11.out.size)).setCell (show w9.heap.size ≤ G by have := hCG'.out; omega) _)
        have HX15 : Hid (w15.heap[O]? = some (.cells #[.int .i64 4, .slice (some ⟨G, 0, none⟩) 6 6] 24)) := Lib.hid (by
          rw [hw15]
          exact (heap_setCell_past _ _ _ _ (by have := hGl'.out; show O ≠ G; omega)).trans ((HB14.out.block O HS11.out).trans HX21.out))
        have HG15 : Hid (w15.heap[G]? = some (.cells (exCells (.slice (some ⟨g2, 0, none⟩) 2 cap2)) 41)) := Lib.hid (by
          rw [hw15]
          exact blk_set HG14.out 19 _)
        have hg2 := HO14.out.cells (g := g2) rfl
        have hg2l := HO14.out.lt g2 rfl
        have HC15 : Hid (∀ j v, ([.int .i64 1, .int .i64 3, .int .i64 0, .int .i64 3, .int .i64 8, .int .i64 1] : List Value)[j]? = some v → w15.cell? ⟨g2, j, none⟩ = some v) := Lib.hid (fun j v hv => by
          have h1 := hg2 j v hv
          rw [hw15]
          have h2 : (⟨g2, 0, none⟩ : Addr).add j = ⟨g2, j, none⟩ := by unfold Addr.add; split <;> simp_all
          rw [h2] at h1
          exact (World.cell?_of_block (heap_setCell_past _ _ _ _ (show g2 ≠ G by have := HS11.out; have := hGl'.out; omega))).trans h1)
        have HK15 := Lib.hid (HK9.out.later HB15.out)
        have HR15 : Hid (BookAt w15.heap.size w15 (.agg #[.int .i64 4, .slice (some ⟨G, 0, none⟩) 6 6]) exOther) := Lib.hid (exOther_at HC15.out (by rw [hsz15]; exact hg2l.2) HG15.out (blk_lt HG15.out))
        rw [← hw15]
        clear hw15 hg2 hg2l hsz15 HO12 HB12 HO13 HB13 HO14 HB14 HG14 HX21 HG11 HC11 HZ11 HS11 HCW hown0 hnews0 HI HGl hCG' hGl' HG15 HC15 HB15 HK9
        have c0 := blk_cell HK15.out.box 0; have c1 := blk_cell HK15.out.box 1
        have d0 := blk_cell HX15.out 0; have d1 := blk_cell HX15.out 1
        go_wp2_with fail
        refine (Differ_good (exBook 0) exOther _ _ _ HK15.out.book HR15.out ex_err0 kn_errO).mono ?_
        rintro e w16 ⟨rfl, hb⟩
        rw [kn_same]
        have HQ16 := Lib.hid (HK15.out.below.trans (hb.mono HK15.out.below.size))
        clear hb HK15 HX15 HR15 c0 c1 d0 d1
        go_wp2_with fail
        refine (lawSig_any 3 24 _).mono ?_
        rintro e w17 ⟨rfl, hb⟩
        have hq16 := HQ16.out.size
        have HQ17 := Lib.hid (Below.trans (show Below w.heap.size w _ by exact (by repeat (first | (refine Below.setCell ?_ ?_ _; rotate_left; · (first | omega | (simp; done) | (simp; omega) | fail)) | (refine Below.alloc ?_ ?_ _; rotate_left; · (first | omega | (simp; done) | (simp; omega) | fail)) | refine Below.drew ?_ | exact HQ16.out | fail))) (hb.mono (by have := HQ16.out.size; simp; try omega)))
        clear hb HQ16
        go_wp2_with fail
        refine (Sig_good 3 24 _ (by decide)).mono ?_
        rintro e w18 ⟨rfl, hb⟩
        have hq17 := HQ17.out.size
        have HQ18 := Lib.hid (Below.trans (show Below w.heap.size w _ by exact (by repeat (first | (refine Below.setCell ?_ ?_ _; rotate_left; · (first | omega | (simp; done) | (simp; omega) | fail)) | (refine Below.alloc ?_ ?_ _; rotate_left; · (first | omega | (simp; done) | (simp; omega) | fail)) | refine Below.drew ?_ | exact HQ17.out | fail))) (hb.mono (by have := HQ17.out.size; simp; try omega)))
        clear hb HQ17
        rw [show sigT 3 24 = [51, 99, 104, 105] from by decide]
        go_wp2_with fail
        refine (lawSig_any 3 22 _).mono ?_
        rintro e w19 ⟨rfl, hb⟩
        have hq18 := HQ18.out.size
        have HQ19 := Lib.hid (Below.trans (show Below w.heap.size w _ by exact (by repeat (first | (refine Below.setCell ?_ ?_ _; rotate_left; · (first | omega | (simp; done) | (simp; omega) | fail)) | (refine Below.alloc ?_ ?_ _; rotate_left; · (first | omega | (simp; done) | (simp; omega) | fail)) | refine Below.drew ?_ | exact HQ18.out | fail))) (hb.mono (by have := HQ18.out.size; simp; try omega)))
        clear hb HQ18
        go_wp2_with fail
        refine (Next_letter 3 22 _ (by decide) (by decide) 4 0 (by decide) false (by decide) (.tuple #[.agg #[.int .i64 0, .int .i64 0], .int .i64 4]) rfl).mono ?_
        rintro e w20 ⟨rfl, hb⟩
        have hq19 := HQ19.out.size
        have HQ20 := Lib.hid (Below.trans (show Below w.heap.size w _ by exact (by repeat (first | (refine Below.setCell ?_ ?_ _; rotate_left; · (first | omega | (simp; done) | (simp; omega) | fail)) | (refine Below.alloc ?_ ?_ _; rotate_left; · (first | omega | (simp; done) | (simp; omega) | fail)) | refine Below.drew ?_ | exact HQ19.out | fail))) (hb.mono (by have := HQ19.out.size; simp; try omega)))
        clear hb HQ19
        go_wp2_with fail
        refine (lawSig_any 1 23 _).mono ?_
        rintro e w21 ⟨rfl, hb⟩
        have hq20 := HQ20.out.size
        have HQ21 := Lib.hid (Below.trans (show Below w.heap.size w _ by exact (by repeat (first | (refine Below.setCell ?_ ?_ _; rotate_left; · (first | omega | (simp; done) | (simp; omega) | fail)) | (refine Below.alloc ?_ ?_ _; rotate_left; · (first | omega | (simp; done) | (simp; omega) | fail)) | refine Below.drew ?_ | exact HQ20.out | fail))) (hb.mono (by have := HQ20.out.size; simp; try omega)))
        clear hb HQ20
        go_wp2_with fail
        refine (Next_plain 1 23 _ (by decide) (by decide)).mono ?_
        rintro e w22 ⟨rfl, hb⟩
        have hq21 := HQ21.out.size
        have HQ22 := Lib.hid (Below.trans (show Below w.heap.size w _ by exact (by repeat (first | (refine Below.setCell ?_ ?_ _; rotate_left; · (first | omega | (simp; done) | (simp; omega) | fail)) | (refine Below.alloc ?_ ?_ _; rotate_left; · (first | omega | (simp; done) | (simp; omega) | fail)) | refine Below.drew ?_ | exact HQ21.out | fail))) (hb.mono (by have := HQ21.out.size; simp; try omega)))
        clear hb HQ21
        go_wp2_with fail
        refine (Awake_any _).mono ?_
        rintro e w23 ⟨rfl, hb⟩
        have hq22 := HQ22.out.size
        have HQ23 := Lib.hid (Below.trans (show Below w.heap.size w _ by exact (by repeat (first | (refine Below.setCell ?_ ?_ _; rotate_left; · (first | omega | (simp; done) | (simp; omega) | fail)) | (refine Below.alloc ?_ ?_ _; rotate_left; · (first | omega | (simp; done) | (simp; omega) | fail)) | refine Below.drew ?_ | exact HQ22.out | fail))) (hb.mono (by have := HQ22.out.size; simp; try omega)))
        clear hb HQ22
        go_wp2_with fail
        go_ret
        exact ⟨rfl, HQ23.out⟩
end Go.Proofs.YtlekbddlemfokaaDoor
