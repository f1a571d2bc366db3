/- The parts Ff, Fj, Fk, Fb, Fd of the proof, joined. It holds without conditions of its own. -/
import Derived.Test.YtpdhdgdbknnllaaGreatDoorFX15
import Derived.Test.YtpdhdgdbknnllaaGreatDoorFX9
import Derived.Test.YtpdhdgdbknnllaaGreatDoorFX14
import Derived.Test.YtpdhdgdbknnllaaGreatDoorFX10
set_option maxRecDepth 100000
set_option maxHeartbeats 20000000
namespace Go.Proofs.YtpdhdgdbknnllaaGreatDoor
section
set_option linter.unusedSimpArgs false
set_option linter.unusedVariables false
open Go Go.RowKit Go.Sort Go.BigFrame
def meetB (a b c d : Int) : Bool := decide (a <= d) && decide (c <= b)
abbrev seenC (b : Bok) (mv wv : Value) : Array Value := #[.int .i64 b.leaves, .int .i64 b.chain, .int .i64 b.wlo, .int .i64 b.whi, .int .i64 b.hlo, .int .i64 b.hhi, mv, wv]
def chainB2 (b : Bok) (up : Bool) : Bool := if b.chain = 0 then true else ((b.chain == 1) == up)
theorem plain_any (m : Mkw) (D : Fds) (co ro : Nat) (nm : Bs) (a b c d : Nat) (tr : Int) (lv : Value) (k : Bok) (mv wv : Value) (w : World) (h1 : 1 <= D.length) (h4 : D.length <= 4) (hc1 : 1 <= co) (hc2 : co <= 16) (hr1 : 1 <= ro) (hr2 : ro <= 16)
  (ha : a <= 2000) (hb : b <= 2000) (hc : c <= 2000) (hd : d <= 2000) (ht1 : 0 <= tr) (ht2 : tr <= 60) :
  Calls Tryz.prog 61 #[.agg (seenC k mv wv), .agg (wayC m (bytesF D) co ro ⟨nm, a, b, c, d⟩ tr lv)] w fun e w' => e = .returned (.agg #[.bool (chainB2 k (lastF D)), .bool (meetB (sizesF a b c d co ro (lastF D) tr).1 (sizesF a b c d co ro (lastF D) tr).2.1 k.wlo k.whi), .bool (meetB (sizesF a b c d co ro (lastF D) tr).2.2.1 (sizesF a b c d co ro (lastF D) tr).2.2.2 k.hlo k.hhi)]) /\ Below w.heap.size w w' := by
 have HSZ := Lib.hid (fun W => sizes_any m D co ro nm a b c d tr lv W h1 h4 hc1 hc2 hr1 hr2 ha hb hc hd ht1 ht2)
 have HU := Lib.hid (fun W => upright_any m D co ro ⟨nm, a, b, c, d⟩ tr lv W h1 h4)
 obtain ⟨up, hup⟩ : ∃ b, b = lastF D := ⟨_, rfl⟩
 rw [<- hup] at HU HSZ ⊢
 obtain ⟨bs, hbs⟩ : ∃ bs, bs = bytesF D := ⟨_, rfl⟩
 rw [<- hbs] at HU HSZ ⊢
 obtain ⟨⟨s1, s2, s3, s4⟩, hs⟩ : ∃ s, s = sizesF a b c d co ro up tr := ⟨_, rfl⟩
 rw [<- hs] at HSZ ⊢
 dsimp only at HSZ ⊢
 have HM1 := Lib.hid (fun W => meet_any s1 s2 k.wlo k.whi W)
 have HM2 := Lib.hid (fun W => meet_any s3 s4 k.hlo k.hhi W)
 unfold meetB
 obtain ⟨z1, hz1⟩ : ∃ z, z = (decide (s1 <= k.whi) && decide (k.wlo <= s2)) := ⟨_, rfl⟩
 obtain ⟨z2, hz2⟩ : ∃ z, z = (decide (s3 <= k.hhi) && decide (k.hlo <= s4)) := ⟨_, rfl⟩
 rw [<- hz1, <- hz2]
 rw [<- hz1] at HM1
 rw [<- hz2] at HM2
 obtain ⟨zc, hzc⟩ : ∃ z, z = chainB2 k up := ⟨_, rfl⟩
 rw [<- hzc]
 have HZC := Lib.hid hzc
 clear hzc hup hbs h1 h4 hs hz1 hz2 hc1 hc2 hr1 hr2 ha hb hc hd ht1 ht2
 obtain ⟨w1, hw1⟩ : ∃ w1, w1 = (((w.alloc (.cells #[.int .i64 k.leaves, .int .i64 k.chain, .int .i64 k.wlo, .int .i64 k.whi, .int .i64 k.hlo, .int .i64 k.hhi, mv, wv] 72)).alloc (.cells #[.int .i64 m.fmt, .int .i64 m.ppr, .int .i64 m.sheets, .bool m.half, S bs, .int .i64 co, .int .i64 ro, S nm, .int .i64 a, .int .i64 b, .int .i64 c, .int .i64 d, .int .i64 tr, lv] 83)).alloc (.cells #[.bool false, .bool false, .bool false] 128)) := ⟨_, rfl⟩
 have hb1 : Below w.heap.size w w1 := by rw [hw1]; exact (by repeat (first | exact Below.refl _ _ | assumption | (refine Below.alloc ?_ ?_ _; rotate_left; · (first | omega | (simp; done) | (simp; omega) | fail)) | (refine Below.setCell ?_ ?_ _; rotate_left; · (first | omega | (simp; done) | (simp; omega) | fail)) | refine Below.drew ?_ | fail))
 have h0 : w1.heap[w.heap.size]? = some (.cells #[.int .i64 k.leaves, .int .i64 k.chain, .int .i64 k.wlo, .int .i64 k.whi, .int .i64 k.hlo, .int .i64 k.hhi, mv, wv] 72 (0, 0)) := by rw [hw1]; exact (by repeat (first | exact heap_alloc_at _ _ _ (by (first | omega | (simp; done) | (simp; omega) | (simp at *; omega) | fail)) | assumption | rw [heap_alloc_past _ _ _ (by (first | omega | (simp; done) | (simp; omega) | (simp at *; omega) | fail))] | rw [heap_setCell_past _ _ _ _ (by (first | omega | (simp; done) | (simp; omega) | (simp at *; omega) | fail))] | fail))
 have h1 : w1.heap[w.heap.size + 1]? = some (.cells #[.int .i64 m.fmt, .int .i64 m.ppr, .int .i64 m.sheets, .bool m.half, S bs, .int .i64 co, .int .i64 ro, S nm, .int .i64 a, .int .i64 b, .int .i64 c, .int .i64 d, .int .i64 tr, lv] 83 (0, 0)) := by rw [hw1]; exact (by repeat (first | exact heap_alloc_at _ _ _ (by (first | omega | (simp; done) | (simp; omega) | (simp at *; omega) | fail)) | assumption | rw [heap_alloc_past _ _ _ (by (first | omega | (simp; done) | (simp; omega) | (simp at *; omega) | fail))] | rw [heap_setCell_past _ _ _ _ (by (first | omega | (simp; done) | (simp; omega) | (simp at *; omega) | fail))] | fail))
 have h2 : w1.heap[w.heap.size + 1 + 1]? = some (.cells #[.bool false, .bool false, .bool false] 128 (0, 0)) := by rw [hw1]; exact (by repeat (first | exact heap_alloc_at _ _ _ (by (first | omega | (simp; done) | (simp; omega) | (simp at *; omega) | fail)) | assumption | rw [heap_alloc_past _ _ _ (by (first | omega | (simp; done) | (simp; omega) | (simp at *; omega) | fail))] | rw [heap_setCell_past _ _ _ _ (by (first | omega | (simp; done) | (simp; omega) | (simp at *; omega) | fail))] | fail))
 have HB1 := Lib.hid hb1
 have H0 := Lib.hid h0
 have H1 := Lib.hid h1
 have H2 := Lib.hid h2
 have p0 := blk_cell h1 0
 have p1 := blk_cell h1 1
 have p2 := blk_cell h1 2
 have p3 := blk_cell h1 3
 have p4 := blk_cell h1 4
 have p5 := blk_cell h1 5
 have p6 := blk_cell h1 6
 have p7 := blk_cell h1 7
 have p8 := blk_cell h1 8
 have p9 := blk_cell h1 9
 have p10 := blk_cell h1 10
 have p11 := blk_cell h1 11
 have p12 := blk_cell h1 12
 have p13 := blk_cell h1 13
 clear hb1 h0 h1 h2
 go_enter Tryz.func61, Tryz.ntmps61
 go_wp2_with fail
 rw [<- hw1]
 clear hw1
 go_wp2_with fail
 refine (HSZ.out _).mono ?_
 rintro e w2 ⟨rfl, hb⟩
 have HB2 := Lib.hid (HB1.out.trans (hb.mono HB1.out.size))
 have H02 := Lib.hid (blk_later hb H0.out)
 have H12 := Lib.hid (blk_later hb H1.out)
 have H22 := Lib.hid (blk_later hb H2.out)
 clear hb p0 p1 p2 p3 p4 p5 p6 p7 p8 p9 p10 p11 p12 p13 HB1 H0 H1 H2
 go_upto_region 2 with fail
 obtain ⟨w5, hw5⟩ : ∃ w5, w5 = ((w2.alloc (.cells #[.int .i64 s1, .int .i64 s2] 27)).alloc (.cells #[.int .i64 s3, .int .i64 s4] 27)) := ⟨_, rfl⟩
 first | rw [<- hw5] | fail "w5"
 have hz2 := HB2.out.size
 have hl0 := blk_lt H02.out
 have hl1 := blk_lt H12.out
 have hl2 := blk_lt H22.out
 have HB5 := Lib.hid (show Below w.heap.size w w5 by rw [hw5]; exact (by repeat (first | (refine Below.setCell ?_ ?_ _; rotate_left; · (first | omega | (simp; done) | (simp; omega) | fail)) | (refine Below.alloc ?_ ?_ _; rotate_left; · (first | omega | (simp; done) | (simp; omega) | fail)) | refine Below.drew ?_ | exact HB2.out | fail)))
 have h0 : w5.heap[w.heap.size]? = some (.cells #[.int .i64 k.leaves, .int .i64 k.chain, .int .i64 k.wlo, .int .i64 k.whi, .int .i64 k.hlo, .int .i64 k.hhi, mv, wv] 72 (0, 0)) := by rw [hw5]; exact (by repeat (first | (refine (heap_setCell_past _ _ _ _ ?_).trans ?_; · (first | omega | (simp; done) | (simp; omega) | fail)) | (refine (heap_alloc_past _ _ _ ?_).trans ?_; · (first | omega | (simp; done) | (simp; omega) | fail)) | exact H02.out | fail))
 have h1 : w5.heap[w.heap.size + 1]? = some (.cells #[.int .i64 m.fmt, .int .i64 m.ppr, .int .i64 m.sheets, .bool m.half, S bs, .int .i64 co, .int .i64 ro, S nm, .int .i64 a, .int .i64 b, .int .i64 c, .int .i64 d, .int .i64 tr, lv] 83 (0, 0)) := by rw [hw5]; exact (by repeat (first | (refine (heap_setCell_past _ _ _ _ ?_).trans ?_; · (first | omega | (simp; done) | (simp; omega) | fail)) | (refine (heap_alloc_past _ _ _ ?_).trans ?_; · (first | omega | (simp; done) | (simp; omega) | fail)) | exact H12.out | fail))
 have h4 : w5.heap[w.heap.size + 1 + 1]? = some (.cells #[.bool false, .bool false, .bool false] 128 (0, 0)) := by rw [hw5]; exact (by repeat (first | (refine (heap_setCell_past _ _ _ _ ?_).trans ?_; · (first | omega | (simp; done) | (simp; omega) | fail)) | (refine (heap_alloc_past _ _ _ ?_).trans ?_; · (first | omega | (simp; done) | (simp; omega) | fail)) | exact H22.out | fail))
 have h5 : w5.heap[w2.heap.size]? = some (.cells #[.int .i64 s1, .int .i64 s2] 27 (0, 0)) := by
  rw [hw5]
  exact (heap_alloc_past _ _ _ (by simp)).trans (World.alloc_heap_new _ _)
 have h6 : w5.heap[w2.heap.size + 1]? = some (.cells #[.int .i64 s3, .int .i64 s4] 27 (0, 0)) := by
  rw [hw5]
  exact heap_alloc_at _ _ _ (by simp)
 have H45 := Lib.hid h4
 have k0 := cell_regrown (blk_cell h0 0)
 have k1 := cell_regrown (blk_cell h0 1)
 have k2 := cell_regrown (blk_cell h0 2)
 have k3 := cell_regrown (blk_cell h0 3)
 have k4 := cell_regrown (blk_cell h0 4)
 have k5 := cell_regrown (blk_cell h0 5)
 have k6 := cell_regrown (blk_cell h0 6)
 have k7 := cell_regrown (blk_cell h0 7)
 have p0 := cell_regrown (blk_cell h1 0)
 have p1 := cell_regrown (blk_cell h1 1)
 have p2 := cell_regrown (blk_cell h1 2)
 have p3 := cell_regrown (blk_cell h1 3)
 have p4 := cell_regrown (blk_cell h1 4)
 have p5 := cell_regrown (blk_cell h1 5)
 have p6 := cell_regrown (blk_cell h1 6)
 have p7 := cell_regrown (blk_cell h1 7)
 have p8 := cell_regrown (blk_cell h1 8)
 have p9 := cell_regrown (blk_cell h1 9)
 have p10 := cell_regrown (blk_cell h1 10)
 have p11 := cell_regrown (blk_cell h1 11)
 have p12 := cell_regrown (blk_cell h1 12)
 have p13 := cell_regrown (blk_cell h1 13)
 have x0 := cell_regrown (blk_cell h5 0)
 have x1 := cell_regrown (blk_cell h5 1)
 have y0 := cell_regrown (blk_cell h6 0)
 have y1 := cell_regrown (blk_cell h6 1)
 have cU : ∀ d' os, Calls Tryz.prog 95 #[.agg (wayC m bs co ro ⟨nm, a, b, c, d⟩ tr lv)] (grow (redrawn w5 d') os) (fun e w'' => e = .returned (.bool up) /\ ∃ p : Regrown, w'' = grow (redrawn w5 p.d) p.os) := fun d' os => Calls.regrown_of (HU.out _)
 have cM1 : ∀ d' os, Calls Tryz.prog 96 #[.agg #[.int .i64 s1, .int .i64 s2], .agg #[.int .i64 k.wlo, .int .i64 k.whi]] (grow (redrawn w5 d') os) (fun e w'' => e = .returned (.bool z1) /\ ∃ p : Regrown, w'' = grow (redrawn w5 p.d) p.os) := fun d' os => Calls.regrown_of (HM1.out _)
 have cM2 : ∀ d' os, Calls Tryz.prog 96 #[.agg #[.int .i64 s3, .int .i64 s4], .agg #[.int .i64 k.hlo, .int .i64 k.hhi]] (grow (redrawn w5 d') os) (fun e w'' => e = .returned (.bool z2) /\ ∃ p : Regrown, w'' = grow (redrawn w5 p.d) p.os) := fun d' os => Calls.regrown_of (HM2.out _)
 clear hw5 h0 h1 h4 h5 h6 HB2 H02 H12 H22 hz2 hl0 hl1 hl2
 by_cases hch : k.chain = 0
 · have e0 : (k.chain == 0) = true := by simp [hch]
   have HC : Hid (chainB2 k up = true) := Lib.hid (by unfold chainB2; rw [if_pos hch])
   clear hch
   refine wp_region_below_tail 0 24 (by kernel_rfl) (by kernel_rfl) fun R hR => ?_; simp only [List.take_succ_cons, List.take_zero, List.drop_succ_cons, List.drop_zero, leadA, leadV, Act.put, Act.eval, List.setIfInBounds_toArray, List.set_cons_zero, List.set_cons_succ, Array.getD_eq_getD_getElem?, List.getElem?_toArray, List.getElem?_cons_zero, List.getElem?_cons_succ, Option.getD_some]; (repeat (go_big_quiet_step (with_reducible (first | exact cU _ _ | exact cM1 _ _ | exact cM2 _ _)))); refine wpQuiet_nil ?_; rintro w7 ⟨⟨d7, os7⟩, rfl⟩; have hR := Lib.hid hR
   have HB7 := Lib.hid (HB5.out.trans ((below_regrown w5 d7 os7).mono HB5.out.size))
   have h4 := blk_later (below_regrown w5 d7 os7) H45.out
   clear k0 k1 k2 k3 k4 k5 k6 k7 p0 p1 p2 p3 p4 p5 p6 p7 p8 p9 p10 p11 p12 p13 x0 x1 y0 y1 cU cM1 cM2 HB5 H45
   dsimp only
   generalize grow (redrawn w5 d7) os7 = w7 at *
   have H4 := Lib.hid h4
   have c0 := blk_cell h4 0; have c1 := blk_cell h4 1; have c2 := blk_cell h4 2
   have f0 := blk_free h4 0; have f1 := blk_free h4 1; have f2 := blk_free h4 2
   clear h4
   go_wp2_with fail
   have h4 := blk_set3 H4.out (.bool true) (.bool z1) (.bool z2)
   have y0 := blk_cell h4 0
   have y1 := blk_cell h4 1
   have y2 := blk_cell h4 2
   exact bodyPost_ret (v := .agg #[.bool true, .bool z1, .bool z2]) (by simp [results, Tryz.results61, go_sem, y0, y1, y2]) rfl ⟨by rw [HZC.out, HC.out], by exact (by repeat (first | (refine Below.setCell ?_ ?_ _; rotate_left; · (first | omega | (simp; done) | (simp; omega) | fail)) | (refine Below.alloc ?_ ?_ _; rotate_left; · (first | omega | (simp; done) | (simp; omega) | fail)) | refine Below.drew ?_ | exact HB7.out | fail))⟩
 · have e0 : (k.chain == 0) = false := by simp [hch]
   obtain ⟨z0, hz0⟩ : ∃ z : Bool, ((k.chain == 1) == up) = z := ⟨_, rfl⟩
   have HC : Hid (chainB2 k up = z0) := Lib.hid (by unfold chainB2; rw [if_neg hch]; exact hz0)
   clear hch
   refine wp_region_below_tail 0 24 (by kernel_rfl) (by kernel_rfl) fun R hR => ?_; simp only [List.take_succ_cons, List.take_zero, List.drop_succ_cons, List.drop_zero, leadA, leadV, Act.put, Act.eval, List.setIfInBounds_toArray, List.set_cons_zero, List.set_cons_succ, Array.getD_eq_getD_getElem?, List.getElem?_toArray, List.getElem?_cons_zero, List.getElem?_cons_succ, Option.getD_some]; (repeat (go_big_quiet_step (with_reducible (first | exact cU _ _ | exact cM1 _ _ | exact cM2 _ _)))); refine wpQuiet_nil ?_; rintro w7 ⟨⟨d7, os7⟩, rfl⟩; have hR := Lib.hid hR
   have HB7 := Lib.hid (HB5.out.trans ((below_regrown w5 d7 os7).mono HB5.out.size))
   have h4 := blk_later (below_regrown w5 d7 os7) H45.out
   clear k0 k1 k2 k3 k4 k5 k6 k7 p0 p1 p2 p3 p4 p5 p6 p7 p8 p9 p10 p11 p12 p13 x0 x1 y0 y1 cU cM1 cM2 HB5 H45
   dsimp only
   generalize grow (redrawn w5 d7) os7 = w7 at *
   have H4 := Lib.hid h4
   have c0 := blk_cell h4 0; have c1 := blk_cell h4 1; have c2 := blk_cell h4 2
   have f0 := blk_free h4 0; have f1 := blk_free h4 1; have f2 := blk_free h4 2
   clear h4
   go_wp2_with fail
   have h4 := blk_set3 H4.out (.bool z0) (.bool z1) (.bool z2)
   have y0 := blk_cell h4 0
   have y1 := blk_cell h4 1
   have y2 := blk_cell h4 2
   exact bodyPost_ret (v := .agg #[.bool z0, .bool z1, .bool z2]) (by simp [results, Tryz.results61, go_sem, y0, y1, y2]) rfl ⟨by rw [HZC.out, HC.out], by exact (by repeat (first | (refine Below.setCell ?_ ?_ _; rotate_left; · (first | omega | (simp; done) | (simp; omega) | fail)) | (refine Below.alloc ?_ ?_ _; rotate_left; · (first | omega | (simp; done) | (simp; omega) | fail)) | refine Below.drew ?_ | exact HB7.out | fail))⟩
end
section
set_option linter.unusedSimpArgs false
set_option linter.unusedVariables false
open Go Go.RowKit Go.Sort Go.BigFrame
def fldsOf (p : Prs) (m : Mkw) : Bs := match p.fmts[m.fmt.toNat]? with
 | some f => f.folds
 | none => []
def pprOf (p : Prs) (m : Mkw) : Ppr := match p.pprs[m.ppr.toNat]? with
 | some q => q
 | none => ⟨[], 0, 0, 0, 0⟩
def lvOf (p : Prs) (m : Mkw) : List Fl := leavesF (fdsB (fldsOf p m)) m.sheets.toNat m.half
abbrev wayOf (p : Prs) (m : Mkw) (lv : Value) : Array Value := wayC m (fldsOf p m) (colsF (fdsB (fldsOf p m))) (rowsF (fdsB (fldsOf p m))) (pprOf p m) p.trim lv
theorem elemWay : ∃ i z, Tryz.prog.info? 83 = some i /\ i.zero = some z /\ i.size = 14 /\ i.bytes = 144 /\ z.cells.size = 14 := by
 have h : (Tryz.prog.info? 83).map (fun i => (i.zero.map (fun z => z.cells.size), i.size, i.bytes)) = some (some 14, 14, 144) := by kernel_rfl
 cases hi : Tryz.prog.info? 83 with
 | none => rw [hi] at h; cases h
 | some i =>
   rw [hi] at h
   simp only [Option.map_some, Option.some.injEq, Prod.mk.injEq] at h
   obtain ⟨h1, h2, h3⟩ := h
   cases hz : i.zero with
   | none => rw [hz] at h1; cases h1
   | some z =>
     rw [hz] at h1
     simp only [Option.map_some, Option.some.injEq] at h1
     exact ⟨i, z, rfl, hz, h2, h3, h1⟩
theorem undWays : Tryz.prog.underlying 70 = some (.slice 83) := by kernel_rfl
def wyCells (p : Prs) (zs : List (Mkw × Value)) : List Value := zs.flatMap fun z => (wayOf p z.1 z.2).toList
theorem wyCells_append (p : Prs) (a b : List (Mkw × Value)) : wyCells p (a ++ b) = wyCells p a ++ wyCells p b := by unfold wyCells; rw [List.flatMap_append]
theorem wyCells_one1 (p : Prs) (m : Mkw) (lv : Value) : wyCells p [(m, lv)] = (wayOf p m lv).toList := by simp [wyCells]
theorem wyCells_len (p : Prs) (a : List (Mkw × Value)) : (wyCells p a).length = a.length * 14 := by
 unfold wyCells
 induction a with
 | nil => rfl
 | cons x xs ih => simp only [List.flatMap_cons, List.length_append, ih, List.length_cons, List.length_nil]; omega
theorem way_slice {p : Prs} {m : Mkw} {lv : Value} {a : Addr} {k c : Nat} (h : Value.slice (some a) k c ∈ (wayOf p m lv).toList) : lv = .slice (some a) k c := by
 simp at h
 exact h.symm
theorem wy_at (p : Prs) : ∀ (zs : List (Mkw × Value)) (i : Nat) (z : Mkw × Value), zs[i]? = some z -> ∀ c, c < 14 -> (wyCells p zs)[i * 14 + c]? = (wayOf p z.1 z.2).toList[c]?
 | [], i, z, h, c, hc => by simp at h
 | y :: ys, 0, z, h, c, hc => by
   simp only [List.getElem?_cons_zero, Option.some.injEq] at h
   subst h
   have e : wyCells p (y :: ys) = (wayOf p y.1 y.2).toList ++ wyCells p ys := rfl
   rw [e, Nat.zero_mul, Nat.zero_add, List.getElem?_append_left (by simpa using hc)]
 | y :: ys, i + 1, z, h, c, hc => by
   have e : wyCells p (y :: ys) = (wayOf p y.1 y.2).toList ++ wyCells p ys := rfl
   have hl : (wayOf p y.1 y.2).toList.length = 14 := rfl
   rw [e, List.getElem?_append_right (by rw [hl]; omega), hl, show (i + 1) * 14 + c - 14 = i * 14 + c by omega]
   exact wy_at p ys i z (by simpa using h) c hc
def WaysAt (base : Nat) (W : World) (p : Prs) (v : Value) (ms : List Mkw) : Prop :=
 ∃ zs : List (Mkw × Value), zs.map (·.1) = ms /\ W.ownsRow base 83 14 v ms.length (wyCells p zs) /\ ∀ z ∈ zs, ∃ g, LeavesAt W z.2 (lvOf p z.1) g /\ base <= g
def WBox (base BL : Nat) (c : Array Value) (ty : TypeId) (p : Prs) (ms : List Mkw) (W : World) : Prop := ∃ v, W.heap[BL]? = some (.cells (c.push v) ty (0, 0)) /\ WaysAt base W p v ms
def OwW (BL : Nat) (c : Array Value) (ty : TypeId) (W : World) (j : Nat) : Prop :=
 ∃ v, W.heap[BL]? = some (.cells (c.push v) ty (0, 0)) /\ (v.ownBlock = some j ∨
   ∃ g n cap cs t f i a k kc, v = .slice (some ⟨g, 0, none⟩) n cap /\ W.heap[g]? = some (.cells cs t f) /\ i < n * 14 /\ cs[i]? = some (.slice (some a) k kc) /\ a.block = j)
theorem push_back {c : Array Value} {u v : Value} {t : TypeId} {f : Nat × Nat} (h : some (Obj.cells (c.push u) t f) = some (Obj.cells (c.push v) t f)) : u = v := by
 simp only [Option.some.injEq, Obj.cells.injEq, and_true] at h
 have := congrArg (fun x : Array Value => x[c.size]?) h
 simpa using this
theorem row_at {W : World} {base k g n cap : Nat} {e : TypeId} {xs : List Value} {cs : Array Value} {t : TypeId} {f : Nat × Nat} (h : W.ownsRow base e 14 (.slice (some ⟨g, 0, none⟩) n cap) k xs) (hg : W.heap[g]? = some (.cells cs t f)) : n = k /\ ∀ i, i < k * 14 -> xs[i]? = cs[i]? := by
 rcases h.2 with ⟨h, -⟩ | ⟨g', cap', cur, h, -, hg', -, -, -, htake⟩
 · cases h
 · cases h
   rw [hg] at hg'
   cases hg'
   refine ⟨rfl, fun i hi => ?_⟩
   rw [<- htake, List.getElem?_take_of_lt hi, Array.getElem?_toList]
theorem WBox.own {W : World} {base BL : Nat} {c : Array Value} {ty : TypeId} {p : Prs} {ms : List Mkw} (h : WBox base BL c ty p ms W) {j : Nat} (hj : OwW BL c ty W j) : base <= j /\ ∃ c t f, W.heap[j]? = some (.cells c t f) := by
 obtain ⟨v, h1, zs, hz, hrow, hlv⟩ := h
 obtain ⟨u, h3, h4⟩ := hj
 rw [h1] at h3
 have := push_back h3
 subst this
 rcases h4 with h4 | ⟨g, n, cap, cs, t, f, i, a, k, kc, rfl, hg, hi, hc, rfl⟩
 · refine ⟨(hrow.lt j h4).1, ?_⟩
   rcases hrow.2 with ⟨rfl, -⟩ | ⟨g, cap, cur, rfl, -, hg, -⟩
   · simp [Value.ownBlock] at h4
   · simp only [Value.ownBlock, Option.some.injEq] at h4
     subst h4
     exact ⟨_, _, _, hg⟩
 · obtain ⟨rfl, he⟩ := row_at hrow hg
   have h5 := List.mem_of_getElem? ((he i hi).trans hc)
   unfold wyCells at h5
   obtain ⟨z, hz1, hz2⟩ := List.mem_flatMap.1 h5
   have h6 := way_slice hz2
   obtain ⟨g2, ⟨k2, rest, e2, hb2, -⟩, hl2⟩ := hlv z hz1
   rw [h6] at e2
   cases e2
   exact ⟨hl2, _, _, _, hb2⟩
theorem own_leaf {W : World} {base BL : Nat} {c : Array Value} {ty : TypeId} {p : Prs} {v : Value} {zs : List (Mkw × Value)} {n : Nat} (hn : n = zs.length) (h1 : W.heap[BL]? = some (.cells (c.push v) ty (0, 0))) (hrow : W.ownsRow base 83 14 v n (wyCells p zs))
  {z : Mkw × Value} (hz : z ∈ zs) {g : Nat} {ls : List Fl} (hl : LeavesAt W z.2 ls g) : OwW BL c ty W g := by
 subst hn
 refine ⟨v, h1, .inr ?_⟩
 obtain ⟨i, hi⟩ := List.getElem?_of_mem hz
 have hlt : i < zs.length := (List.getElem?_eq_some_iff.1 hi).1
 rcases hrow.2 with ⟨-, h0⟩ | ⟨g0, cap, cur, rfl, -, hg0, -, -, -, htake⟩
 · omega
 · obtain ⟨k, rest, e, -, -⟩ := hl
   obtain ⟨-, he⟩ := row_at hrow hg0
   refine ⟨g0, zs.length, cap, cur, _, _, i * 14 + 13, ⟨g, 0, none⟩, ls.length, ls.length + k, rfl, hg0, by omega, ?_, rfl⟩
   rw [<- he _ (by omega), wy_at p zs i z hi 13 (by omega), <- e]
   rfl
theorem LeavesAt.same {w w' : World} {v : Value} {ls : List Fl} {g : Nat} (h : LeavesAt w v ls g) (hs : w'.heap[g]? = w.heap[g]?) : LeavesAt w' v ls g := by
 obtain ⟨k, rest, h1, h2, h3⟩ := h
 exact ⟨k, rest, h1, hs.trans h2, h3⟩
theorem LeavesAt.lt {w : World} {v : Value} {ls : List Fl} {g : Nat} (h : LeavesAt w v ls g) : g < w.heap.size := by
 obtain ⟨k, rest, h1, h2, h3⟩ := h
 exact blk_lt h2
theorem WBox.only {W W' : World} {X : Nat -> Prop} {hs base BL : Nat} {c : Array Value} {ty : TypeId} {p : Prs} {ms : List Mkw} (h : WBox base BL c ty p ms W) (ho : OnlyIn X W W') (hX : ∀ j, X j -> hs <= j /\ ¬ OwW BL c ty W j) (hBL : BL < hs) :
  WBox base BL c ty p ms W' /\ ∀ j, OwW BL c ty W' j -> OwW BL c ty W j := by
 obtain ⟨v, h1, zs, hz, hrow, hlv⟩ := h
 have hlen : ms.length = zs.length := by rw [<- hz, List.length_map]
 have h1' : W'.heap[BL]? = some (.cells (c.push v) ty (0, 0)) := (ho.block BL (blk_lt h1) (fun hx => by have := (hX _ hx).1; omega)).trans h1
 have hgb : ∀ g, v.ownBlock = some g -> g < W.heap.size -> W'.heap[g]? = W.heap[g]? := fun g hg hlt => ho.block g hlt (fun hx => (hX _ hx).2 ⟨_, h1, .inl hg⟩)
 refine ⟨⟨v, h1', zs, hz, ⟨hrow.1, ?_⟩, fun z hz' => ?_⟩, fun j ⟨u, h3, h4⟩ => ?_⟩
 · rcases hrow.2 with hn | ⟨g, cap, cur, rfl, hb, hg, rest⟩
   · exact .inl hn
   · exact .inr ⟨g, cap, cur, rfl, hb, (hgb g rfl (blk_lt hg)).trans hg, rest⟩
 · obtain ⟨g, hl, hb⟩ := hlv z hz'
   exact ⟨g, hl.same (ho.block g hl.lt (fun hx => (hX _ hx).2 (own_leaf hlen h1 hrow hz' hl))), hb⟩
 · rw [h1'] at h3
   have := push_back h3
   subst this
   rcases h4 with h4 | ⟨g, n, cap, cs, t, f, i, a, k, kc, rfl, hg, hi, hc, rfl⟩
   · exact ⟨v, h1, .inl h4⟩
   · refine ⟨_, h1, .inr ⟨g, n, cap, cs, t, f, i, a, k, kc, rfl, ?_, hi, hc, rfl⟩⟩
     rw [<- hgb g rfl (hrow.lt g rfl).2]
     exact hg
theorem WaysAt.later {base : Nat} {W W1 : World} {p : Prs} {v : Value} {ms : List Mkw} (h : WaysAt base W p v ms) (hb : Below W.heap.size W W1) : WaysAt base W1 p v ms := by
 obtain ⟨zs, hz, hrow, hlv⟩ := h
 refine ⟨zs, hz, row_later hrow hb, fun z hz' => ?_⟩
 obtain ⟨g, hl, hg⟩ := hlv z hz'
 exact ⟨g, hl.later hb, hg⟩
theorem ways_stay {W W1 : World} {hs base BL : Nat} {c : Array Value} {ty : TypeId} {p : Prs} {ms : List Mkw} {Pr : Nat -> Prop} (h : WBox base BL c ty p ms W) (hb : Below W.heap.size W W1) (hPr : ∀ j, Pr j -> j < W.heap.size) :
  Turn hs Pr (OwW BL c ty) W W1 /\ WBox base BL c ty p ms W1 := by
 obtain ⟨v, h1, hw⟩ := h
 have h1' := blk_later hb h1
 refine ⟨⟨hb.size, fun j hj => hb.block j (hPr j hj), fun j _ hj _ => hb.block j hj, fun j _ ⟨u, h3, h4⟩ => ?_⟩, v, h1', hw.later hb⟩
 rw [h1'] at h3
 have := push_back h3
 subst this
 rcases h4 with h4 | ⟨g, n, cap, cs, t, f, i, a, k, kc, rfl, hg, hi, hc, rfl⟩
 · exact ⟨v, h1, .inl h4⟩
 · refine ⟨_, h1, .inr ⟨g, n, cap, cs, t, f, i, a, k, kc, rfl, ?_, hi, hc, rfl⟩⟩
   obtain ⟨zs, hz, hrow, hlv⟩ := hw
   rw [<- hb.block g (hrow.lt g rfl).2]
   exact hg
theorem ways_step {W Wt w' : World} {hs base BL gl : Nat} {c : Array Value} {ty : TypeId} {p : Prs} {ms : List Mkw} {m : Mkw} {lv v : Value} {zs : List (Mkw × Value)} {g cap : Nat} {Pr : Nat -> Prop} (hL : W.heap[BL]? = some (.cells (c.push v) ty (0, 0)))
  (hz : zs.map (·.1) = ms) (hrow : W.ownsRow base 83 14 v ms.length (wyCells p zs)) (hlv : ∀ z ∈ zs, ∃ g, LeavesAt W z.2 (lvOf p z.1) g /\ base <= g) (hnew : LeavesAt Wt lv (lvOf p m) gl) (hgl : W.heap.size <= gl)
  (ho : Below W.heap.size W Wt) (hown : w'.ownsRow base 83 14 (.slice (some ⟨g, 0, none⟩) (ms.length + 1) cap) (ms.length + 1) (wyCells p zs ++ (wayOf p m lv).toList)) (hgrow : Wt.grownBy w' v.ownBlock) (hg : v.ownBlock = some g ∨ Wt.heap.size <= g)
  (hBL : BL < hs) (hb : hs <= base) (hbs : base <= W.heap.size) (hPr : ∀ j, Pr j -> j ≠ BL /\ j < base /\ j < W.heap.size) :
  w'.heap[BL]? = some (.cells (c.push v) ty (0, 0)) /\ WBox base BL c ty p (ms ++ [m]) (w'.setCell ⟨BL, c.size, none⟩ (.slice (some ⟨g, 0, none⟩) (ms.length + 1) cap)) /\
   Turn hs Pr (OwW BL c ty) W (w'.setCell ⟨BL, c.size, none⟩ (.slice (some ⟨g, 0, none⟩) (ms.length + 1) cap)) /\ OnlyIn (fun j => j = BL ∨ base <= j) W (w'.setCell ⟨BL, c.size, none⟩ (.slice (some ⟨g, 0, none⟩) (ms.length + 1) cap)) := by
 have hBlt : BL < W.heap.size := blk_lt hL
 have hlen : ms.length = zs.length := by rw [<- hz, List.length_map]
 have hLt : Wt.heap[BL]? = some (.cells (c.push v) ty (0, 0)) := blk_later ho hL
 have hnr : some BL ≠ v.ownBlock := fun e' => by
  have h := (hrow.lt BL e'.symm).1; omega
 have hLw : w'.heap[BL]? = some (.cells (c.push v) ty (0, 0)) := (hgrow.block BL (blk_lt hLt) hnr).trans hLt
 have hne : g ≠ BL := fun e' => by
  rcases hg with h | h
  · exact hnr (by rw [h, e'])
  · have := blk_lt hLt; omega
 obtain ⟨nv, hnv⟩ : ∃ nv, nv = Value.slice (some ⟨g, 0, none⟩) (ms.length + 1) cap := ⟨_, rfl⟩
 rw [<- hnv]
 have hL3 : (w'.setCell ⟨BL, c.size, none⟩ nv).heap[BL]? = some (.cells (c.push nv) ty (0, 0)) := by
  have e : (c.push v).setIfInBounds c.size nv = c.push nv := by
   apply Array.toList_inj.1
   rw [Array.toList_setIfInBounds, Array.toList_push, Array.toList_push, List.set_append_right _ _ (by simp)]
   simp
  rw [<- e]
  exact blk_set hLw c.size nv
 have hkeep : ∀ j, j < W.heap.size -> j ≠ BL -> some j ≠ v.ownBlock -> (w'.setCell ⟨BL, c.size, none⟩ nv).heap[j]? = W.heap[j]? := fun j hj hjB hjv =>
  (heap_setCell_past w' ⟨BL, c.size, none⟩ _ j hjB).trans ((hgrow.block j (Nat.lt_of_lt_of_le hj ho.size) hjv).trans (ho.block j hj))
 have hsz : W.heap.size <= (w'.setCell ⟨BL, c.size, none⟩ nv).heap.size := by
  simp only [World.size_setCell]; exact Nat.le_trans ho.size hgrow.size
 have hapart : ∀ (u : Value) (ls : List Fl) (b : Nat), LeavesAt Wt u ls b -> base <= b -> LeavesAt (w'.setCell ⟨BL, c.size, none⟩ nv) u ls b := fun u ls b hl hbb => by
  refine hl.same ((heap_setCell_past w' ⟨BL, c.size, none⟩ _ b (by simp only; omega)).trans (hgrow.block b hl.lt fun e' => ?_))
  rcases (row_later hrow ho).2 with ⟨rfl, -⟩ | ⟨g0, cap0, cur, rfl, -, hg0, -⟩
  · simp [Value.ownBlock] at e'
  · simp only [Value.ownBlock, Option.some.injEq] at e'
    subst e'
    obtain ⟨k, rest, -, h2, -⟩ := hl
    rw [h2] at hg0
    simp at hg0
 have hrow3 : (w'.setCell ⟨BL, c.size, none⟩ nv).ownsRow base 83 14 nv (ms.length + 1) (wyCells p zs ++ (wayOf p m lv).toList) := by
  rw [hnv]
  refine ⟨hown.1, ?_⟩
  rcases hown.2 with ⟨h, -⟩ | ⟨g', cap', cur, h, hb', hg', rest⟩
  · cases h
  · cases h
    exact .inr ⟨g, cap, cur, rfl, hb', (heap_setCell_past w' ⟨BL, c.size, none⟩ _ g hne).trans hg', rest⟩
 refine ⟨hLw, ⟨nv, hL3, zs ++ [(m, lv)], by simp [hz], ?_, fun z hz' => ?_⟩, ⟨hsz, fun j hj => ?_, fun j h1 h2 h3 => ?_, fun j hj ⟨u, h3, h4⟩ => ?_⟩, ⟨?_, ?_, ?_, hsz, fun j hj hx => ?_⟩⟩
 · rw [wyCells_append, wyCells_one1, List.length_append]
   exact hrow3
 · rcases List.mem_append.1 hz' with hz' | hz'
   · obtain ⟨b, hl, hbb⟩ := hlv z hz'
     exact ⟨b, hapart _ _ _ (hl.later ho) hbb, hbb⟩
   · rw [List.mem_singleton.1 hz']
     exact ⟨gl, hapart _ _ _ hnew (by omega), by omega⟩
 · obtain ⟨a1, a2, a3⟩ := hPr j hj
   exact hkeep j a3 a1 (fun e' => by have := (hrow.lt j e'.symm).1; omega)
 · exact hkeep j h2 (by omega) (fun e' => h3 ⟨v, hL, .inl e'.symm⟩)
 · rw [hL3] at h3
   have := push_back h3
   subst this
   rcases h4 with h4 | ⟨g1, n1, cap1, cs, t, f, i, a, k, kc, e1, hg1, hi, hc, rfl⟩
   · rw [hnv] at h4
     simp only [Value.ownBlock, Option.some.injEq] at h4
     subst h4
     rcases hg with h | h
     · exact ⟨v, hL, .inl h⟩
     · have := ho.size; omega
   · rw [e1] at hrow3 hg1
     obtain ⟨rfl, he⟩ := row_at hrow3 hg1
     have h5 := (he i hi).trans hc
     by_cases hlt : i < ms.length * 14
     · rw [List.getElem?_append_left (by rw [wyCells_len]; omega)] at h5
       rcases hrow.2 with ⟨-, h0⟩ | ⟨g0, cap0, cur, rfl, -, hg0, -, -, -, htake⟩
       · omega
       · obtain ⟨-, he0⟩ := row_at hrow hg0
         exact ⟨_, hL, .inr ⟨g0, ms.length, cap0, cur, _, _, i, a, k, kc, rfl, hg0, hlt, (he0 i hlt).symm.trans h5, rfl⟩⟩
     · rw [List.getElem?_append_right (by rw [wyCells_len]; omega)] at h5
       have h6 := way_slice (List.mem_of_getElem? h5)
       obtain ⟨k2, rest, e2, -, -⟩ := hnew
       rw [h6] at e2
       cases e2
       simp only at hj
       omega
 · show w'.os = _; rw [hgrow.os, ho.os]
 · show w'.tape = _; rw [hgrow.tape, ho.tape]
 · show w'.output = _; rw [hgrow.output, ho.output]
 · exact hkeep j hj (fun e' => hx (Or.inl e')) (fun e' => hx (Or.inr (hrow.lt j e'.symm).1))
end
section
set_option linter.unusedSimpArgs false
set_option linter.unusedVariables false
open Go Go.RowKit Go.Sort Go.BigFrame
attribute [local go_sem] Oper.semAt_some putAll
theorem Held.only2 {w0 W W' : World} {bs : List (Nat × Obj)} {X : Nat -> Prop} (h : Held w0 bs W) (ho : OnlyIn X W W') (hX : ∀ k, X k -> w0.heap.size <= k /\ ∀ p ∈ bs, p.1 ≠ k) : Held w0 bs W' :=
 ⟨ho.below h.below h.below.size (fun k hk => (hX k hk).1), fun p hp => (ho.block p.1 (blk_lt (h.at_ p hp)) (fun hx => (hX _ hx).2 p hp rfl)).trans (h.at_ p hp)⟩
theorem makes_any (fv pv : Value) (t s : Int) (w : World) :
  Calls Tryz.prog 58 #[.agg #[fv, pv, .int .i64 t, .int .i64 s]] w fun e w' =>
   e = .returned (.func (.func 89) #[] #[.pointer (some ⟨w.heap.size, 0, none⟩)]) /\ w.alloc (.cells #[fv, pv, .int .i64 t, .int .i64 s] 122) = w' := by
 have hmf : ∀ (fn : Fn) (first cap : Array Value) (w : World), (Instr.makeFunc fn first cap).run Tryz.prog w = .ok (.func fn first cap) w := fun _ _ _ _ => rfl
 go_enter Tryz.func58, Tryz.ntmps58
 go_wp2
 go_ret
 exact ⟨rfl, rfl⟩
def waysP (p : Prs) (b : Bok) (m : Mkw) : Bool := ((lvOf p m).length : Int) == b.leaves
def waysW (p : Prs) (b : Bok) (pre : List Mkw) : List Mkw := pre.filter (waysP p b)
theorem ways_no {p : Prs} {b : Bok} {pre : List Mkw} {m : Mkw} (h : waysP p b m = false) : waysW p b (pre ++ [m]) = waysW p b pre := by simp [waysW, List.filter_append, h]
theorem ways_yes {p : Prs} {b : Bok} {pre : List Mkw} {m : Mkw} (h : waysP p b m = true) : waysW p b (pre ++ [m]) = waysW p b pre ++ [m] := by simp [waysW, List.filter_append, h]
theorem makes_ok {p : Prs} {m : Mkw} (h : m ∈ makesW p) : mkwErr p m = 0 := by
 unfold makesW mkA mkB mkC3 mkD at h
 simp only [List.mem_flatMap, List.mem_filter] at h
 obtain ⟨f, -, q, -, s, -, hf, -, -, h⟩ := h
 unfold okM at h
 exact of_decide_eq_true h
theorem err_of_K {p : Prs} {b : Bok} (h : (checkK p b).2.2 = 0) : errP p = 0 := by
 unfold checkK at h
 split at h
 · rename_i h1; exact absurd h h1
 · rename_i h1; simpa using h1
theorem way_any2 (p : Prs) (m : Mkw) (vp : Value) (w : World) (hp : PrsAt w.heap.size w vp p) (he : errP p = 0) (hm : mkwErr p m = 0) :
  Calls Tryz.prog 59 #[vp, mkwV m] w fun e w' => (∃ lv g, e = .returned (.agg (wayOf p m lv)) /\ LeavesAt w' lv (lvOf p m) g /\ w.heap.size <= g) /\ Below w.heap.size w w' := by
 refine (way_any p m vp w hp he hm).mono ?_
 rintro e w' ⟨⟨f, q, lv, g, hf, hq, rfl, hl, hg⟩, hb⟩
 refine ⟨⟨lv, g, ?_, ?_, hg⟩, hb⟩
 · simp only [wayOf, fldsOf, pprOf, hf, hq]
 · simp only [lvOf, fldsOf, hf]; exact hl
theorem WaysAt.keep {base base' : Nat} {W W' : World} {p : Prs} {v : Value} {ms : List Mkw} (h : WaysAt base W p v ms) (hb : base' <= base) (hk : ∀ j c t f, base <= j -> W.heap[j]? = some (.cells c t f) -> W'.heap[j]? = some (.cells c t f)) : WaysAt base' W' p v ms := by
 obtain ⟨zs, hz, hrow, hlv⟩ := h
 refine ⟨zs, hz, ⟨hrow.1, ?_⟩, fun z hz' => ?_⟩
 · rcases hrow.2 with hn | ⟨g, cap, cur, rfl, hb', hg, rest⟩
   · exact .inl hn
   · exact .inr ⟨g, cap, cur, rfl, Nat.le_trans hb hb', hk _ _ _ _ hb' hg, rest⟩
 · obtain ⟨g, ⟨k, rest, e1, e2, e3⟩, hg⟩ := hlv z hz'
   exact ⟨g, ⟨k, rest, e1, hk _ _ _ _ hg e2, e3⟩, Nat.le_trans hb hg⟩
theorem openCase_any (p : Prs) (b : Bok) (vp mv : Value) (w : World) (hp : PrsAt w.heap.size w vp p) (hb : RowsAt 2 mrkV w.heap.size w mv b.marks) (he : (checkK p b).2.2 = 0) :
  Calls Tryz.prog 25 #[vp, .agg #[.int .i64 b.leaves, .int .i64 b.chain, .int .i64 b.wlo, .int .i64 b.whi, .int .i64 b.hlo, .int .i64 b.hhi, mv]] w fun e w' => (∃ wv, e = .returned (.tuple #[.agg (seenC b mv wv), .int .i64 0]) /\ WaysAt w.heap.size w' p wv (waysW p b (makesW p))) /\ Below w.heap.size w w' := by
 have hee := err_of_K he
 obtain ⟨⟨f1, f2⟩, ⟨f3, f4⟩, ⟨f5, f6⟩, -⟩ := fine_press hee
 have hlenM : (makesW p).length <= 192 := by have := mkA_len p p.fmts.length (by omega) (by omega); unfold makesW; omega
 have HCB := Lib.hid (fun W (h1 : PrsAt W.heap.size W vp p) (h2 : BokAt W.heap.size W (.agg #[.int .i64 b.leaves, .int .i64 b.chain, .int .i64 b.wlo, .int .i64 b.whi, .int .i64 b.hlo, .int .i64 b.hhi, mv]) b) => foldCheckBook_any p b vp _ W h1 h2)
 rw [he] at HCB
 have HP := Lib.hid hp
 have HM := Lib.hid hb
 have HE := Lib.hid hee
 have HLM := Lib.hid hlenM
 obtain ⟨fv, pv, rfl, ⟨fa, fcap, rfl, -⟩, ⟨pa, pcap, rfl, -⟩, -⟩ := hp
 obtain ⟨ma, mcap, rfl, -⟩ := hb
 obtain ⟨n1, hn1⟩ : ∃ n, n = p.fmts.length := ⟨_, rfl⟩
 obtain ⟨n2, hn2⟩ : ∃ n, n = p.pprs.length := ⟨_, rfl⟩
 obtain ⟨n3, hn3⟩ : ∃ n, n = b.marks.length := ⟨_, rfl⟩
 rw [<- hn1, <- hn2] at HP HCB ⊢
 rw [<- hn3] at HM HCB ⊢
 clear he hee hlenM hn1 hn2 hn3 f1 f2 f3 f4 f5 f6
 refine (callsIn_wide (n := 10)).1 ?_
 refine callsIn_of_wp_marks Tryz.func25 rfl trivial ?_ rfl
 simp only [Tryz.ntmps25, List.size_toArray, List.length_cons, List.length_nil, Nat.reduceAdd, Nat.reduceSub, Array.replicate_succ, Array.replicate_zero, List.push_toArray, List.append_toArray, List.nil_append, List.cons_append]
 gi_wp2_with fail
 have hb0 : Below w.heap.size w (((w.alloc (.cells #[.slice fa n1 fcap, .slice pa n2 pcap, .int .i64 p.trim, .int .i64 p.sheets] 25)).alloc (.cells #[.int .i64 b.leaves, .int .i64 b.chain, .int .i64 b.wlo, .int .i64 b.whi, .int .i64 b.hlo, .int .i64 b.hhi, .slice ma n3 mcap] 30)).alloc (.cells #[.int .i64 0, .int .i64 0, .int .i64 0, .int .i64 0, .int .i64 0, .int .i64 0, .slice none 0 0, .slice none 0 0] 72)) := by exact (by repeat (first | exact Below.refl _ _ | assumption | (refine Below.alloc ?_ ?_ _; rotate_left; · (first | omega | (simp; done) | (simp; omega) | fail)) | (refine Below.setCell ?_ ?_ _; rotate_left; · (first | omega | (simp; done) | (simp; omega) | fail)) | refine Below.drew ?_ | fail))
 have b0 : (((w.alloc (.cells #[.slice fa n1 fcap, .slice pa n2 pcap, .int .i64 p.trim, .int .i64 p.sheets] 25)).alloc (.cells #[.int .i64 b.leaves, .int .i64 b.chain, .int .i64 b.wlo, .int .i64 b.whi, .int .i64 b.hlo, .int .i64 b.hhi, .slice ma n3 mcap] 30)).alloc (.cells #[.int .i64 0, .int .i64 0, .int .i64 0, .int .i64 0, .int .i64 0, .int .i64 0, .slice none 0 0, .slice none 0 0] 72)).heap[w.heap.size]? = some (.cells #[.slice fa n1 fcap, .slice pa n2 pcap, .int .i64 p.trim, .int .i64 p.sheets] 25) := (by repeat (first | exact heap_alloc_at _ _ _ (by (first | omega | (simp; done) | (simp; omega) | (simp at *; omega) | fail)) | assumption | rw [heap_alloc_past _ _ _ (by (first | omega | (simp; done) | (simp; omega) | (simp at *; omega) | fail))] | rw [heap_setCell_past _ _ _ _ (by (first | omega | (simp; done) | (simp; omega) | (simp at *; omega) | fail))] | fail))
 have b2 : (((w.alloc (.cells #[.slice fa n1 fcap, .slice pa n2 pcap, .int .i64 p.trim, .int .i64 p.sheets] 25)).alloc (.cells #[.int .i64 b.leaves, .int .i64 b.chain, .int .i64 b.wlo, .int .i64 b.whi, .int .i64 b.hlo, .int .i64 b.hhi, .slice ma n3 mcap] 30)).alloc (.cells #[.int .i64 0, .int .i64 0, .int .i64 0, .int .i64 0, .int .i64 0, .int .i64 0, .slice none 0 0, .slice none 0 0] 72)).heap[w.heap.size + 1]? = some (.cells #[.int .i64 b.leaves, .int .i64 b.chain, .int .i64 b.wlo, .int .i64 b.whi, .int .i64 b.hlo, .int .i64 b.hhi, .slice ma n3 mcap] 30) := (by repeat (first | exact heap_alloc_at _ _ _ (by (first | omega | (simp; done) | (simp; omega) | (simp at *; omega) | fail)) | assumption | rw [heap_alloc_past _ _ _ (by (first | omega | (simp; done) | (simp; omega) | (simp at *; omega) | fail))] | rw [heap_setCell_past _ _ _ _ (by (first | omega | (simp; done) | (simp; omega) | (simp at *; omega) | fail))] | fail))
 have b3 : (((w.alloc (.cells #[.slice fa n1 fcap, .slice pa n2 pcap, .int .i64 p.trim, .int .i64 p.sheets] 25)).alloc (.cells #[.int .i64 b.leaves, .int .i64 b.chain, .int .i64 b.wlo, .int .i64 b.whi, .int .i64 b.hlo, .int .i64 b.hhi, .slice ma n3 mcap] 30)).alloc (.cells #[.int .i64 0, .int .i64 0, .int .i64 0, .int .i64 0, .int .i64 0, .int .i64 0, .slice none 0 0, .slice none 0 0] 72)).heap[w.heap.size + 1 + 1]? = some (.cells #[.int .i64 0, .int .i64 0, .int .i64 0, .int .i64 0, .int .i64 0, .int .i64 0, .slice none 0 0, .slice none 0 0] 72) := (by repeat (first | exact heap_alloc_at _ _ _ (by (first | omega | (simp; done) | (simp; omega) | (simp at *; omega) | fail)) | assumption | rw [heap_alloc_past _ _ _ (by (first | omega | (simp; done) | (simp; omega) | (simp at *; omega) | fail))] | rw [heap_setCell_past _ _ _ _ (by (first | omega | (simp; done) | (simp; omega) | (simp at *; omega) | fail))] | fail))
 have hsz : (((w.alloc (.cells #[.slice fa n1 fcap, .slice pa n2 pcap, .int .i64 p.trim, .int .i64 p.sheets] 25)).alloc (.cells #[.int .i64 b.leaves, .int .i64 b.chain, .int .i64 b.wlo, .int .i64 b.whi, .int .i64 b.hlo, .int .i64 b.hhi, .slice ma n3 mcap] 30)).alloc (.cells #[.int .i64 0, .int .i64 0, .int .i64 0, .int .i64 0, .int .i64 0, .int .i64 0, .slice none 0 0, .slice none 0 0] 72)).heap.size = w.heap.size + 3 := by simp
 revert hb0 b0 b2 b3 hsz
 generalize (((w.alloc (.cells #[.slice fa n1 fcap, .slice pa n2 pcap, .int .i64 p.trim, .int .i64 p.sheets] 25)).alloc (.cells #[.int .i64 b.leaves, .int .i64 b.chain, .int .i64 b.wlo, .int .i64 b.whi, .int .i64 b.hlo, .int .i64 b.hhi, .slice ma n3 mcap] 30)).alloc (.cells #[.int .i64 0, .int .i64 0, .int .i64 0, .int .i64 0, .int .i64 0, .int .i64 0, .slice none 0 0, .slice none 0 0] 72)) = w0
 intro hb0 b0 b2 b3 hsz
 refine ⟨trivial, (callsIn_wide.2 (HCB.out _ (HP.out.later hb0) ⟨_, rfl, HM.out.later hb0⟩)).mono ?_⟩
 rintro e w1 ⟨rfl, hb1⟩
 have hb2 := hb0.trans (hb1.mono hb0.size)
 have b0 := blk_later hb1 b0
 have b2 := blk_later hb1 b2
 have b3 := blk_later hb1 b3
 have hs1 := hb1.size
 clear hb0 hb1
 have k0 := blk_cell b2 0
 have k1 := blk_cell b2 1
 have k2 := blk_cell b2 2
 have k3 := blk_cell b2 3
 have k4 := blk_cell b2 4
 have k5 := blk_cell b2 5
 have k6 := blk_cell b2 6
 have p0 := blk_cell b0 0
 have p1 := blk_cell b0 1
 have p2 := blk_cell b0 2
 have p3 := blk_cell b0 3
 have l0 := blk_lt b0
 have l2 := blk_lt b2
 have l3 := blk_lt b3
 clear HCB
 gi_wp2_with fail
 refine ⟨trivial, (callsIn_wide.2 (makes_any _ _ _ _ _)).mono ?_⟩
 rintro e w2 ⟨rfl, hw2⟩
 gi_wp2_with fail
 obtain ⟨V, hV⟩ : ∃ V, V = w1.heap.size := ⟨_, rfl⟩
 have hz2 : w2.heap.size = V + 3 := by rw [<- hw2, hV]; simp
 have hh : Held w [(w.heap.size + 1, .cells #[.int .i64 b.leaves, .int .i64 b.chain, .int .i64 b.wlo, .int .i64 b.whi, .int .i64 b.hlo, .int .i64 b.hhi, .slice ma n3 mcap] 30), (w.heap.size + 1 + 1, .cells #[.int .i64 0, .int .i64 0, .int .i64 0, .int .i64 0, .int .i64 0, .int .i64 0, .slice none 0 0, .slice none 0 0] 72), (V + 1, .cells #[.slice fa n1 fcap, .slice pa n2 pcap, .int .i64 p.trim, .int .i64 p.sheets] 122)] w2 := ⟨hb2.trans (by rw [<- hw2]; exact (by repeat (first | (refine Below.setCell ?_ ?_ _; rotate_left; · (first | omega | (simp; done) | (simp; omega) | fail)) | (refine Below.alloc ?_ ?_ _; rotate_left; · (first | omega | (simp; done) | (simp; omega) | fail)) | refine Below.drew ?_ | exact Below.refl _ _ | fail))), fun x hx => by
  simp only [List.mem_cons, List.not_mem_nil, or_false] at hx
  rcases hx with rfl | rfl | rfl
  · rw [<- hw2]; exact ((by repeat (first | (refine Below.setCell ?_ ?_ _; rotate_left; · (first | omega | (simp; done) | (simp; omega) | fail)) | (refine Below.alloc ?_ ?_ _; rotate_left; · (first | omega | (simp; done) | (simp; omega) | fail)) | refine Below.drew ?_ | exact Below.refl _ _ | fail)) : Below w1.heap.size w1 _).block _ l2 |>.trans b2
  · rw [<- hw2]; exact ((by repeat (first | (refine Below.setCell ?_ ?_ _; rotate_left; · (first | omega | (simp; done) | (simp; omega) | fail)) | (refine Below.alloc ?_ ?_ _; rotate_left; · (first | omega | (simp; done) | (simp; omega) | fail)) | refine Below.drew ?_ | exact Below.refl _ _ | fail)) : Below w1.heap.size w1 _).block _ l3 |>.trans b3
  · rw [<- hw2, hV]; exact (by repeat (first | exact heap_alloc_at _ _ _ (by (first | omega | (simp; done) | (simp; omega) | fail)) | (refine (heap_alloc_past _ _ _ ?_).trans ?_; · (first | omega | (simp; done) | (simp; omega) | fail)) | fail))⟩
 have hL : w2.heap[V]? = some (.cells ((#[.int .i64 b.leaves, .int .i64 b.chain, .int .i64 b.wlo, .int .i64 b.whi, .int .i64 b.hlo, .int .i64 b.hhi, .slice ma n3 mcap] : Array Value).push (.slice none 0 0)) 72 (0, 0)) := by rw [<- hw2, hV]; exact (by repeat (first | exact heap_alloc_at _ _ _ (by (first | omega | (simp; done) | (simp; omega) | fail)) | (refine (heap_alloc_past _ _ _ ?_).trans ?_; · (first | omega | (simp; done) | (simp; omega) | fail)) | fail))
 have hvb : w2.heap[V + 2]? = some (.cells #[.slice fa n1 fcap, .slice pa n2 pcap, .int .i64 p.trim, .int .i64 p.sheets] 122) := by rw [<- hw2, hV]; exact (by repeat (first | exact heap_alloc_at _ _ _ (by (first | omega | (simp; done) | (simp; omega) | fail)) | (refine (heap_alloc_past _ _ _ ?_).trans ?_; · (first | omega | (simp; done) | (simp; omega) | fail)) | fail))
 have hVl : w.heap.size + 3 <= V := by omega
 have hz2a : V + 3 <= w2.heap.size := by omega
 have hz2b : w2.heap.size <= V + 3 := by omega
 simp only [World.size_alloc, <- hV]
 clear hw2 hV hz2
 have HV := Lib.hid hvb
 have HL := Lib.hid hL
 clear hvb hL k0 k1 k2 k3 k4 k5 k6 p0 p1 p2 p3 l0 l2 l3 b0 b2 b3 hb2 hs1 hsz
 refine rf_law2 (gf := 89) (lb := #[.pointer (some ⟨V + 2, 0, none⟩)]) rfl (enters_of Tryz.func89 (by kernel_rfl) rfl)
  (makes_it p _ _ w2 (V + 2) w.heap.size (by omega) (HP.out.same (fun k hk => hh.below.block k hk) (Nat.le_refl _)) HE.out HV.out) (fun _ => rfl) (fun j hj => by rcases hj with h | h <;> omega)
  (fun pre W => Held w [(w.heap.size + 1, .cells #[.int .i64 b.leaves, .int .i64 b.chain, .int .i64 b.wlo, .int .i64 b.whi, .int .i64 b.hlo, .int .i64 b.hhi, .slice ma n3 mcap] 30), (w.heap.size + 1 + 1, .cells #[.int .i64 0, .int .i64 0, .int .i64 0, .int .i64 0, .int .i64 0, .int .i64 0, .slice none 0 0, .slice none 0 0] 72), (V + 1, .cells #[.slice fa n1 fcap, .slice pa n2 pcap, .int .i64 p.trim, .int .i64 p.sheets] 122)] W /\ WBox w2.heap.size V #[.int .i64 b.leaves, .int .i64 b.chain, .int .i64 b.wlo, .int .i64 b.whi, .int .i64 b.hlo, .int .i64 b.hhi, .slice ma n3 mcap] 72 p (waysW p b pre) W) (fun _ _ _ => False) (OwW V #[.int .i64 b.leaves, .int .i64 b.chain, .int .i64 b.wlo, .int .i64 b.whi, .int .i64 b.hlo, .int .i64 b.hhi, .slice ma n3 mcap] 72)
  (fun m => .cells #[.int .i64 m.fmt, .int .i64 m.ppr, .int .i64 m.sheets, .bool m.half] 50) (fun m bx => [(30, mkwV m), (11, .pointer (some ⟨bx, 0, none⟩))])
  (fun pre W k h hk => (h.2.own hk).2) ?_ (fun _ _ _ _ _ h => h.elim) ⟨hh, _, HL.out, [], rfl, World.ownsRow_nil _ _ _ _, fun z hz => by cases hz⟩ ?assign ?body ?done (fun _ _ _ _ _ h => h.elim)
 · rintro pre X W W' ⟨h1, h2⟩ ho hX
   obtain ⟨h3, h4⟩ := h2.only ho hX (by omega)
   exact ⟨⟨h1.only2 ho (fun k hk => ⟨by have := (hX k hk).1; omega, fun x hx => by
    have := (hX k hk).1
    simp only [List.mem_cons, List.not_mem_nil, or_false] at hx
    rcases hx with rfl | rfl | rfl <;> (simp only; omega)⟩), h3⟩, h4⟩
 case assign =>
  intro l y W K' hK'
  gi_wp2_with fail
  exact hK'
 case body =>
  rintro l pre m rest bx W hsp ⟨h1, v, h2, zs, hz, hrow, hlv⟩ hbx hlb hnb
  have hlbx := blk_lt hbx
  have hm := makes_ok (p := p) (m := m) (by rw [hsp]; simp)
  have hlen : (waysW p b pre).length <= 192 := by
   have h5 := congrArg List.length hsp
   have h6 : (waysW p b pre).length <= pre.length := List.length_filter_le _ _
   have := HLM.out
   simp only [List.length_append, List.length_cons] at h5
   omega
  have hv := h1.get 2 rfl
  have hbk := h1.get 0 rfl
  have c0 := blk_cell hv 0; have c1 := blk_cell hv 1; have c2 := blk_cell hv 2; have c3 := blk_cell hv 3
  have d0 := blk_cell hbx 0; have d1 := blk_cell hbx 1; have d2 := blk_cell hbx 2; have d3 := blk_cell hbx 3
  have HC := Lib.hid (way_any2 p m (.agg #[.slice fa n1 fcap, .slice pa n2 pcap, .int .i64 p.trim, .int .i64 p.sheets]) W (HP.out.same (B' := W.heap.size) (fun k hk => h1.below.block k hk) h1.below.size) HE.out hm)
  have H1 := Lib.hid h1
  have H2 := Lib.hid h2
  have HROW := Lib.hid hrow
  have HLV := Lib.hid hlv
  clear hv hm hsp
  gi_wp2_with fail
  refine ⟨trivial, ?_⟩
  refine (CallsIn.inRound l (callsIn_wide.2 HC.out)).mono ?_
  rintro e W1 ⟨⟨lv, gl, rfl, hl, hgl⟩, hb1⟩
  have hl' := hl
  obtain ⟨k7, rest7, rfl, -⟩ := hl'
  have hbk1 := blk_later hb1 hbk
  have k0 := blk_cell hbk1 0
  have lbk := blk_lt hbk1
  obtain ⟨N7, hN7⟩ : ∃ n, n = (lvOf p m).length := ⟨_, rfl⟩
  obtain ⟨q, hq⟩ : ∃ q, q = waysP p b m := ⟨_, rfl⟩
  have hq2 : ((N7 : Int) == b.leaves) = q := by rw [hq, hN7]; rfl
  rw [<- hN7]
  have HN7 := Lib.hid hN7
  have HQ := Lib.hid hq
  have HB1 := Lib.hid hb1
  have HLL := Lib.hid hl
  have h2' := blk_later hb1 h2
  have z7 : W1.cell? ⟨V, 7, none⟩ = some v := blk_cell h2' 7
  have lV := blk_lt h2'
  obtain ⟨bs, hbs⟩ : ∃ x, x = fldsOf p m := ⟨_, rfl⟩
  obtain ⟨co, hco⟩ : ∃ x, x = colsF (fdsB (fldsOf p m)) := ⟨_, rfl⟩
  obtain ⟨ro, hro⟩ : ∃ x, x = rowsF (fdsB (fldsOf p m)) := ⟨_, rfl⟩
  obtain ⟨⟨nm, qa, qb, qc, qd⟩, hqp⟩ : ∃ x, x = pprOf p m := ⟨_, rfl⟩
  have HWY : Hid (wayOf p m (.slice (some ⟨gl, 0, none⟩) N7 (N7 + k7)) = wayC m bs co ro ⟨nm, qa, qb, qc, qd⟩ p.trim (.slice (some ⟨gl, 0, none⟩) N7 (N7 + k7))) := Lib.hid (by rw [hbs, hco, hro, hqp])
  rw [HWY.out]
  clear hbs hco hro hqp hq hN7 hb1 hl hbk hbk1 h2' h1 h2 hrow hlv c0 c1 c2 c3 HC
  cases q with
  | false =>
    gi_wp2_with fail
    obtain ⟨t1, t2⟩ := ways_stay (hs := w2.heap.size) (Pr := fun k => k = V + 2 ∨ k < w.heap.size) (W1 := W1.alloc (.cells (wayC m bs co ro ⟨nm, qa, qb, qc, qd⟩ p.trim (.slice (some ⟨gl, 0, none⟩) N7 (N7 + k7))) 83)) ⟨v, H2.out, zs, hz, HROW.out, HLV.out⟩ (HB1.out.alloc HB1.out.size _) (fun j hj => by rcases hj with hj | hj <;> omega)
    exact ⟨t1, H1.out.below' (HB1.out.alloc HB1.out.size _), by rw [ways_no HQ.out.symm]; exact t2⟩
  | true =>
    obtain ⟨ei, ez, hi1, hi2, hi3, hi4, hi5⟩ := elemWay
    have HR : Hid (W1.ownsRow w2.heap.size 83 14 v (waysW p b pre).length (wyCells p zs)) := Lib.hid (row_later HROW.out HB1.out)
    gi_wp2_with (gi_at_builtin; refine wpListIn_append_one _ rfl _ _ 70 rfl w2.heap.size 83 ei ez 14 144 undWays hi1 hi2 hi3 hi4 hi5 (by decide) v (waysW p b pre).length (wyCells p zs) rfl ((HR.out.alloc _).alloc _) ⟨W1.heap.size + 1, 0, none⟩ 1 (wayC m bs co ro ⟨nm, qa, qb, qc, qd⟩ p.trim (.slice (some ⟨gl, 0, none⟩) N7 (N7 + k7))).toList rfl rfl ?c1 ?c2 ?c3 ?c4 ?c5 ?c6)
    case c2 => simp [Value.oneCell']
    case c3 => simp only [maxLen]; omega
    case c4 => omega
    case c5 => simp; omega
    case c6 =>
     rintro g capg w' hown hgrow hg
     have hWt : Below W.heap.size W ((W1.alloc (.cells (wayC m bs co ro ⟨nm, qa, qb, qc, qd⟩ p.trim (.slice (some ⟨gl, 0, none⟩) N7 (N7 + k7))) 83)).alloc (.cells (wayC m bs co ro ⟨nm, qa, qb, qc, qd⟩ p.trim (.slice (some ⟨gl, 0, none⟩) N7 (N7 + k7))) 83)) := (HB1.out.alloc HB1.out.size _).alloc (by simp; have := HB1.out.size; omega) _
     obtain ⟨s1, s2, s3, s4⟩ := ways_step (hs := w2.heap.size) (Pr := fun k => k = V + 2 ∨ k < w.heap.size) (m := m) H2.out hz HROW.out HLV.out ((HLL.out.later ((Below.refl _ _).alloc (Nat.le_refl _) _)).later ((Below.refl _ _).alloc (Nat.le_refl _) _)) hgl hWt (by rw [<- HN7.out, HWY.out]; exact hown) hgrow (by simpa using hg) (by omega) (Nat.le_refl _) (by omega) (fun j hj => by rcases hj with hj | hj <;> refine ⟨by omega, by omega, by omega⟩)
     have cL : w'.cell? ⟨V, 7, none⟩ = some v := blk_cell s1 7
     have fL := blk_free s1 7
     gi_wp2_with fail
     refine ⟨s3, H1.out.only2 s4 (fun j hj => ⟨by rcases hj with hj | hj <;> omega, fun x hx => by
      simp only [List.mem_cons, List.not_mem_nil, or_false] at hx
      rcases hx with rfl | rfl | rfl <;> rcases hj with hj | hj <;> (simp only; omega)⟩), ?_⟩
     rw [ways_yes HQ.out.symm]
     exact s2
 case done =>
  rintro D W hD ⟨h1, v, h2, hw⟩ hdef
  obtain ⟨va, vn, vc, rfl⟩ : ∃ a n c, v = Value.slice a n c := by
   obtain ⟨zs, -, hrow, -⟩ := hw
   rcases hrow.2 with ⟨rfl, -⟩ | ⟨g, cap, cur, rfl, -⟩
   · exact ⟨_, _, _, rfl⟩
   · exact ⟨_, _, _, rfl⟩
  have h2' : W.heap[V]? = some (.cells #[.int .i64 b.leaves, .int .i64 b.chain, .int .i64 b.wlo, .int .i64 b.whi, .int .i64 b.hlo, .int .i64 b.hhi, .slice ma n3 mcap, .slice va vn vc] 72 (0, 0)) := h2
  have hzz := h1.get 1 rfl
  have n0 := blk_cell h2' 0
  have n1' := blk_cell h2' 1
  have n2' := blk_cell h2' 2
  have n3' := blk_cell h2' 3
  have n4 := blk_cell h2' 4
  have n5 := blk_cell h2' 5
  have n6 := blk_cell h2' 6
  have n7 := blk_cell h2' 7
  have o0 := blk_cell hzz 0
  have o1 := blk_cell hzz 1
  have o2 := blk_cell hzz 2
  have o3 := blk_cell hzz 3
  have o4 := blk_cell hzz 4
  have o5 := blk_cell hzz 5
  have o6 := blk_cell hzz 6
  have o7 := blk_cell hzz 7
  have r0 := blk_free hzz 0
  have r1 := blk_free hzz 1
  have r2 := blk_free hzz 2
  have r3 := blk_free hzz 3
  have r4 := blk_free hzz 4
  have r5 := blk_free hzz 5
  have r6 := blk_free hzz 6
  have r7 := blk_free hzz 7
  have HW := Lib.hid hw
  have H1 := Lib.hid h1
  have HD := Lib.hid hdef
  have HZZ := Lib.hid hzz
  clear hw h1 h2 h2' hzz
  gi_wp2_with fail
  obtain ⟨W8, hW8⟩ : ∃ x, x = ((((((((W.setCell ⟨w.heap.size + 1 + 1, 0, none⟩ (.int .i64 b.leaves)).setCell ⟨w.heap.size + 1 + 1, 1, none⟩ (.int .i64 b.chain)).setCell ⟨w.heap.size + 1 + 1, 2, none⟩ (.int .i64 b.wlo)).setCell ⟨w.heap.size + 1 + 1, 3, none⟩ (.int .i64 b.whi)).setCell ⟨w.heap.size + 1 + 1, 4, none⟩ (.int .i64 b.hlo)).setCell ⟨w.heap.size + 1 + 1, 5, none⟩ (.int .i64 b.hhi)).setCell ⟨w.heap.size + 1 + 1, 6, none⟩ (.slice ma n3 mcap)).setCell ⟨w.heap.size + 1 + 1, 7, none⟩ (.slice va vn vc)) := ⟨_, rfl⟩
  have hS : W8.heap[w.heap.size + 1 + 1]? = some (.cells #[.int .i64 b.leaves, .int .i64 b.chain, .int .i64 b.wlo, .int .i64 b.whi, .int .i64 b.hlo, .int .i64 b.hhi, .slice ma n3 mcap, .slice va vn vc] 72) := by
   rw [hW8]
   have := (blk_set (blk_set (blk_set (blk_set (blk_set (blk_set (blk_set (blk_set HZZ.out 0 (.int .i64 b.leaves)) 1 (.int .i64 b.chain)) 2 (.int .i64 b.wlo)) 3 (.int .i64 b.whi)) 4 (.int .i64 b.hlo)) 5 (.int .i64 b.hhi)) 6 (.slice ma n3 mcap)) 7 (.slice va vn vc))
   simpa using this
  have hO : OnlyIn (fun j => j = w.heap.size + 1 + 1) W W8 := by rw [hW8]; exact ((((((((OnlyIn.setCell (X := fun j => j = w.heap.size + 1 + 1) W ⟨w.heap.size + 1 + 1, 0, none⟩ _ rfl).trans (OnlyIn.setCell _ ⟨w.heap.size + 1 + 1, 1, none⟩ _ rfl)).trans (OnlyIn.setCell _ ⟨w.heap.size + 1 + 1, 2, none⟩ _ rfl)).trans (OnlyIn.setCell _ ⟨w.heap.size + 1 + 1, 3, none⟩ _ rfl)).trans (OnlyIn.setCell _ ⟨w.heap.size + 1 + 1, 4, none⟩ _ rfl)).trans (OnlyIn.setCell _ ⟨w.heap.size + 1 + 1, 5, none⟩ _ rfl)).trans (OnlyIn.setCell _ ⟨w.heap.size + 1 + 1, 6, none⟩ _ rfl)).trans (OnlyIn.setCell _ ⟨w.heap.size + 1 + 1, 7, none⟩ _ rfl))
  rw [<- hW8]
  have hne : D ≠ w.heap.size + 1 + 1 := by omega
  have hdef8 : W8.heap[D]? = some (.deferred (some [])) := (hO.block D (Array.getElem?_eq_some_iff.1 HD.out).1 hne).trans HD.out
  have hS9 : (W8.putObj D (.deferred none)).heap[w.heap.size + 1 + 1]? = some (.cells #[.int .i64 b.leaves, .int .i64 b.chain, .int .i64 b.wlo, .int .i64 b.whi, .int .i64 b.hlo, .int .i64 b.hhi, .slice ma n3 mcap, .slice va vn vc] 72) := (World.putObj_heap_other (fun e => hne e.symm)).trans hS
  have y0 := blk_cell hS9 0
  have y1 := blk_cell hS9 1
  have y2 := blk_cell hS9 2
  have y3 := blk_cell hS9 3
  have y4 := blk_cell hS9 4
  have y5 := blk_cell hS9 5
  have y6 := blk_cell hS9 6
  have y7 := blk_cell hS9 7
  refine leave_ret hdef8 ⟨.tuple #[.agg (seenC b (.slice ma n3 mcap) (.slice va vn vc)), .int .i64 0], by simp [results, Tryz.results25, go_sem, y0, y1, y2, y3, y4, y5, y6, y7], ⟨_, rfl, ?_⟩, ?_⟩
  · refine HW.out.keep (by omega) (fun j c t f hj hc => ?_)
    have hjD : j ≠ D := fun e => by rw [e, HD.out] at hc; cases hc
    exact (World.putObj_heap_other hjD).trans ((hO.block j (blk_lt hc) (by omega)).trans hc)
  · exact ((⟨hO.below H1.out.below H1.out.below.size (fun k hk => by omega), fun x hx => by cases hx⟩ : Held w [] W8).put (.deferred none) (D := D) (by omega) (fun x hx => by cases hx)).below
end
section
set_option linter.unusedSimpArgs false
set_option linter.unusedVariables false
def cntV (K : Nat) (u : Nat -> Bool) : Nat := ((List.range K).filter u).length
def ltV (K : Nat) (u v : Nat -> Bool) : Prop := cntV K u < cntV K v ∨ (cntV K u = cntV K v /\ ∃ i, i < K /\ u i = true /\ v i = false /\ ∀ j, j < i -> u j = v j)
theorem ltV_irr {K : Nat} {u v : Nat -> Bool} (h : ∀ i, i < K -> u i = v i) : ¬ ltV K u v := by
 have hc : cntV K u = cntV K v := by
  unfold cntV
  congr 1
  apply List.filter_congr
  intro i hi
  exact h i (List.mem_range.1 hi)
 rintro (h1 | ⟨-, i, h1, h2, h3, -⟩)
 · omega
 · rw [h i h1, h3] at h2
   cases h2
theorem ltV_trans {K : Nat} {u v x : Nat -> Bool} (h1 : ltV K u v) (h2 : ltV K v x) : ltV K u x := by
 rcases h1 with h1 | ⟨h1, i, i1, i2, i3, i4⟩
 · rcases h2 with h2 | ⟨h2, -⟩
   · exact Or.inl (by omega)
   · exact Or.inl (by omega)
 · rcases h2 with h2 | ⟨h2, j, j1, j2, j3, j4⟩
   · exact Or.inl (by omega)
   · refine Or.inr ⟨by omega, ?_⟩
     by_cases hij : i < j
     · exact ⟨i, i1, i2, by rw [<- j4 i hij]; exact i3, fun k hk => (i4 k hk).trans (j4 k (by omega))⟩
     · by_cases hji : j < i
       · exact ⟨j, j1, by rw [i4 j hji]; exact j2, j3, fun k hk => (i4 k (by omega)).trans (j4 k hk)⟩
       · have : i = j := by omega
         subst this
         rw [i3] at j2
         cases j2
def leV (K : Nat) (u v : Nat -> Bool) : Prop := ¬ ltV K v u
theorem leV_refl (K : Nat) (u : Nat -> Bool) : leV K u u := ltV_irr fun _ _ => rfl
inductive Picked (K : Nat) : List ((Nat -> Bool) × (Nat -> Bool)) -> List (Nat -> Bool) -> Prop
 | nil : Picked K [] []
 | cons {q qs m ms} : (m = q.1 ∨ m = q.2) -> leV K m q.1 -> leV K m q.2 -> Picked K qs ms -> Picked K (q :: qs) (m :: ms)
def idxV (K : Nat) (u : Nat -> Bool) : List Nat := (List.range K).filter u
end
section
set_option linter.unusedSimpArgs false
set_option linter.unusedVariables false
def lowN (d : Nat) : Nat := d &&& (2 ^ 64 - d)
def lowB (d : Nat) : Bool := d == 0 || (List.range 11).any fun i => lowN d == 2 ^ i && d.testBit i && (List.range i).all fun j => !d.testBit j
theorem low_all : (List.range 2048).all lowB = true := by decide +kernel
theorem low_is {d : Nat} (h : d < 2048) (h0 : d ≠ 0) : ∃ i, i < 11 /\ lowN d = 2 ^ i /\ d.testBit i = true /\ ∀ j, j < i -> d.testBit j = false := by
 have h1 := List.all_eq_true.1 low_all d (List.mem_range.2 h)
 unfold lowB at h1
 rw [Bool.or_eq_true] at h1
 rcases h1 with h1 | h1
 · exact absurd (by simpa using h1) h0
 · obtain ⟨i, hi, h2⟩ := List.any_eq_true.1 h1
   simp only [Bool.and_eq_true, beq_iff_eq, List.all_eq_true, Bool.not_eq_true'] at h2
   exact ⟨i, List.mem_range.1 hi, h2.1.1, h2.1.2, fun j hj => h2.2 j (List.mem_range.2 hj)⟩
theorem and_bit (s i : Nat) : s &&& 2 ^ i ≠ 0 ↔ s.testBit i = true := by
 have hb : (s &&& 2 ^ i).testBit i = s.testBit i := by rw [Nat.testBit_and, Nat.testBit_two_pow]; simp
 constructor
 · intro h
   cases hx : s.testBit i with
   | true => rfl
   | false =>
     refine absurd (Nat.eq_of_testBit_eq fun j => ?_) h
     rw [Nat.testBit_and, Nat.testBit_two_pow, Nat.zero_testBit]
     by_cases e : i = j
     · subst e
       rw [hx]
       rfl
     · simp [e]
 · intro h e
   rw [e, h] at hb
   simp at hb
def aheadN (s o : Nat) : Bool := if cntV 11 s.testBit = cntV 11 o.testBit then decide (s &&& lowN (s ^^^ o) ≠ 0) else decide (cntV 11 s.testBit < cntV 11 o.testBit)
theorem ahead_is {s o : Nat} (hs : s < 2048) (ho : o < 2048) : aheadN s o = true ↔ ltV 11 s.testBit o.testBit := by
 unfold aheadN ltV
 by_cases hc : cntV 11 s.testBit = cntV 11 o.testBit
 · rw [if_pos hc]
   have hd : s ^^^ o < 2048 := Nat.xor_lt_two_pow (n := 11) hs ho
   by_cases h0 : s ^^^ o = 0
   · have he : s = o := by
      apply Nat.eq_of_testBit_eq
      intro i
      have h1 : (s ^^^ o).testBit i = false := by rw [h0]; simp
      rw [Nat.testBit_xor] at h1
      cases hx : s.testBit i <;> cases hy : o.testBit i <;> simp_all
     subst he
     rw [h0]
     constructor
     · intro h
       have := of_decide_eq_true h
       exact absurd (show s &&& lowN 0 = 0 by simp [lowN]) this
     · rintro (h | ⟨-, i, -, h1, h2, -⟩)
       · omega
       · rw [h1] at h2
         cases h2
   · obtain ⟨i, hi, hl, hb, hj⟩ := low_is hd h0
     rw [hl]
     have hne : s.testBit i ≠ o.testBit i := fun e => by
      rw [Nat.testBit_xor, e] at hb
      simp at hb
     have heq : ∀ j, j < i -> s.testBit j = o.testBit j := fun j h => by
      have h1 := hj j h
      rw [Nat.testBit_xor] at h1
      cases hx : s.testBit j <;> cases hy : o.testBit j <;> simp_all
     constructor
     · intro h
       have h2 : s.testBit i = true := (and_bit s i).1 (of_decide_eq_true h)
       exact Or.inr ⟨hc, i, hi, h2, by rw [h2] at hne; cases hy : o.testBit i <;> simp_all, heq⟩
     · rintro (h | ⟨-, k, hk, h1, h2, h3⟩)
       · omega
       · have hki : k = i := by
          rcases Nat.lt_trichotomy k i with h | h | h
          · have := heq k h
            rw [h1, h2] at this
            cases this
          · exact h
          · exact absurd (h3 i h) hne
         subst hki
         exact decide_eq_true ((and_bit s k).2 h1)
 · rw [if_neg hc]
   constructor
   · intro h
     exact Or.inl (of_decide_eq_true h)
   · rintro (h | ⟨h, -⟩)
     · exact decide_eq_true h
     · exact absurd h hc
theorem bits_of (K : Nat) (u : Nat -> Bool) : ∃ s, s < 2 ^ K /\ ∀ i, i < K -> s.testBit i = u i := by
 induction K with
 | zero => exact ⟨0, by simp, fun i hi => by omega⟩
 | succ K ih =>
   obtain ⟨s, h1, h2⟩ := ih
   cases hu : u K with
   | false =>
     refine ⟨s, Nat.lt_of_lt_of_le h1 (Nat.pow_le_pow_right (by decide) (by omega)), fun i hi => ?_⟩
     by_cases e : i = K
     · subst e
       rw [hu]
       exact Nat.testBit_lt_two_pow h1
     · exact h2 i (by omega)
   | true =>
     refine ⟨2 ^ K + s, by rw [Nat.pow_succ]; omega, fun i hi => ?_⟩
     by_cases e : i = K
     · subst e
       rw [hu, Nat.testBit_two_pow_add_eq, Nat.testBit_lt_two_pow h1]
       rfl
     · rw [Nat.testBit_two_pow_add_gt (by omega)]
       exact h2 i (by omega)
end
end Go.Proofs.YtpdhdgdbknnllaaGreatDoor
