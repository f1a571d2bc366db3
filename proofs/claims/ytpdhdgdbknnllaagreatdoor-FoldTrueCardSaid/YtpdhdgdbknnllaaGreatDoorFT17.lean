/- The parts Hu of the proof, joined. It holds without conditions of its own. -/
import Derived.Test.YtpdhdgdbknnllaaGreatDoorFT13
import Derived.Test.YtpdhdgdbknnllaaGreatDoorFT14
import Derived.Test.YtpdhdgdbknnllaaGreatDoorFT16
import Derived.BigQuiet
set_option maxRecDepth 100000
set_option maxHeartbeats 20000000
namespace Go.Proofs.YtpdhdgdbknnllaaGreatDoor
section
set_option linter.unusedSimpArgs false
set_option linter.unusedVariables false
open Go Go.RowKit Go.Sort Go.BigFrame
theorem refSize_any (p : Prs) (m : Mkw) (f : Fmt) (W H : Nat) (vp : Value) (w : World) (hp : PrsAt w.heap.size w vp p) (he : errP p = 0) (hm : mkwErr p m = 0) (hf : p.fmts[m.fmt.toNat]? = some f) (hW : W <= 2000) (hH : H <= 2000) :
  Calls Tryz.prog 50 #[vp, mkwV m, .int .i64 W, .int .i64 H] w fun e w' => e = .returned (.tuple #[.int .i64 ((sizeN (lastF (fdsB f.folds)) (colsF (fdsB f.folds)) (rowsF (fdsB f.folds)) W H).1 : Nat), .int .i64 ((sizeN (lastF (fdsB f.folds)) (colsF (fdsB f.folds)) (rowsF (fdsB f.folds)) W H).2 : Nat)]) /\ Below w.heap.size w w' := by
 have FN := Lib.hid (fine_of he hm hf)
 obtain ⟨hfm0, hfm1, -, -⟩ := fine_at he hm
 obtain ⟨fv, pv, rfl, ⟨a, cap, rfl, hfc⟩, ⟨a2, cap2, rfl, -⟩, -⟩ := hp
 obtain ⟨n1, hn1⟩ : ∃ n, n = p.fmts.length := ⟨_, rfl⟩
 obtain ⟨n2, hn2⟩ : ∃ n, n = p.pprs.length := ⟨_, rfl⟩
 obtain ⟨b', off, rfl, hb', hc'⟩ := hfc (fun h => by rw [h] at hf; simp at hf)
 have q1 : w.cell? ⟨b', off + m.fmt.toNat * 2 + 1, none⟩ = some (S f.folds) := by have := hc' _ f hf 1 _ rfl; simpa using this
 rw [<- hn1] at hfm1
 rw [<- hn1, <- hn2]
 obtain ⟨D, hD⟩ : ∃ D, D = fdsB f.folds := ⟨_, rfl⟩
 have hDl : D.length = f.folds.length := by rw [hD]; unfold fdsB; simp
 have hback : bytesF D = f.folds := by rw [hD]; exact FN.out.back
 have hD1 : 1 <= D.length := by rw [hDl]; exact FN.out.len1
 have hD4 : D.length <= 4 := by rw [hDl]; exact FN.out.len4
 have hcr : (1 <= colsF D /\ colsF D <= 16) /\ (1 <= rowsF D /\ rowsF D <= 16) := by
  have h1 := pows_all D (allFolds_mem hD1 hD4)
  simp only [pows, List.mem_cons, List.not_mem_nil, or_false] at h1
  omega
 have HTX := Lib.hid (fun W => refTimesX hD1 hD4 W)
 have HTY := Lib.hid (fun W => refTimesY hD1 hD4 W)
 obtain ⟨kl, hkl, cl, hcl, hlast⟩ := bytesF_last hD1
 rw [hback] at HTX HTY hkl hlast
 rw [<- hD]
 have hzs : (⟨f.folds.toArray⟩ : ByteArray).size = kl + 1 := by rw [size_bytes, hkl]
 have hkl4 : kl < 4 := by omega
 obtain ⟨fm, pp, sh, hf7⟩ := m
 obtain ⟨fi, hfi⟩ : ∃ fi : Nat, fm = fi := ⟨fm.toNat, by dsimp only at hfm0; omega⟩
 subst hfi
 dsimp only [Int.toNat_natCast] at *
 obtain ⟨CO, hCO⟩ : ∃ c, c = colsF D := ⟨_, rfl⟩
 obtain ⟨RO, hRO⟩ : ∃ c, c = rowsF D := ⟨_, rfl⟩
 rw [<- hCO, <- hRO] at hcr ⊢
 rw [<- hCO] at HTX
 rw [<- hRO] at HTY
 obtain ⟨xa, hxa⟩ : ∃ n, n = W / CO := ⟨_, rfl⟩
 obtain ⟨xb, hxb⟩ : ∃ n, n = H / RO := ⟨_, rfl⟩
 have E1 := Lib.hid (wrap_div W CO xa hxa (by omega))
 have E2 := Lib.hid (wrap_div H RO xb hxb (by omega))
 unfold sizeN
 rw [<- hxa, <- hxb]
 obtain ⟨up, hup⟩ : ∃ u, u = lastF D := ⟨_, rfl⟩
 rw [<- hup] at hcl ⊢
 obtain ⟨bs, hbs⟩ : ∃ bs, bs = f.folds := ⟨_, rfl⟩
 rw [<- hbs] at HTX HTY hzs hlast q1
 clear hCO hRO hD hDl hback FN hc' hf he hm hfc hn1 hn2 hxa hxb hup hbs hkl
 obtain ⟨⟨hc1, hc2⟩, ⟨hr1, hr2⟩⟩ := hcr
 have hb3 : Below w.heap.size w ((w.alloc (.cells #[.slice (some ⟨b', off, none⟩) n1 cap, .slice a2 n2 cap2, .int .i64 p.trim, .int .i64 p.sheets] 25)).alloc (.cells #[.int .i64 fi, .int .i64 pp, .int .i64 sh, .bool hf7] 50)) := by exact (by repeat (first | exact Below.refl _ _ | assumption | (refine Below.alloc ?_ ?_ _; rotate_left; · (first | omega | (simp; done) | (simp; omega) | fail)) | (refine Below.setCell ?_ ?_ _; rotate_left; · (first | omega | (simp; done) | (simp; omega) | fail)) | refine Below.drew ?_ | fail))
 have q2 := cell_later' hb3 q1
 obtain ⟨w1, hw1⟩ : ∃ w1, w1 = ((w.alloc (.cells #[.slice (some ⟨b', off, none⟩) n1 cap, .slice a2 n2 cap2, .int .i64 p.trim, .int .i64 p.sheets] 25)).alloc (.cells #[.int .i64 fi, .int .i64 pp, .int .i64 sh, .bool hf7] 50)) := ⟨_, rfl⟩
 have HB3 := Lib.hid hb3
 go_enter Tryz.func50, Tryz.ntmps50
 go_upto_region 2 with fail
 rw [<- hw1] at HB3 ⊢
 have cA : ∀ d' os, Calls Tryz.prog 80 #[S bs, .int .u8 120] (grow (redrawn w1 d') os) (fun e w'' => e = .returned (.int .i64 CO) /\ ∃ p : Regrown, w'' = grow (redrawn w1 p.d) p.os) := fun d' os => Calls.regrown_of (HTX.out _)
 have cB : ∀ d' os, Calls Tryz.prog 80 #[S bs, .int .u8 121] (grow (redrawn w1 d') os) (fun e w'' => e = .returned (.int .i64 RO) /\ ∃ p : Regrown, w'' = grow (redrawn w1 p.d) p.os) := fun d' os => Calls.regrown_of (HTY.out _)
 clear hb3 q1 q2 hw1
 refine wp_region_quiet_below (by kernel_rfl) (by kernel_rfl) ?_; (repeat (go_big_quiet_step (with_reducible (first | exact cA _ _ | exact cB _ _)))); refine wpQuiet_nil ?_; rintro w6 ⟨⟨d6, os6⟩, rfl⟩
 have HB6 := Lib.hid (HB3.out.trans ((below_regrown w1 d6 os6).mono HB3.out.size))
 clear cA cB HB3
 dsimp only
 generalize grow (redrawn w1 d6) os6 = w6 at *
 rw [E1.out, E2.out]
 clear E1 E2
 cases up with
 | true =>
   go_wp2_with fail
   go_ret2
   exact ⟨rfl, HB6.out⟩
 | false =>
   go_wp2_with fail
   go_ret2
   exact ⟨rfl, HB6.out⟩
theorem among_any (lo hi : Int) (n : Nat) (w : World) (h0 : 0 <= lo) (h1 : lo <= hi) (h2 : hi <= 2000) :
  Calls Tryz.prog 51 #[.agg #[.int .i64 lo, .int .i64 hi], .int .i64 n] w fun e w' => e = .returned (.int .i64 (amongI lo hi n)) /\ Below w.heap.size w w' := by
 have hin := among_in h1 n
 obtain ⟨r, hr⟩ : ∃ r, r = (n : Int) % (hi - lo + 1) := ⟨_, rfl⟩
 have hr1 := Int.emod_nonneg (n : Int) (show hi - lo + 1 ≠ 0 by omega)
 have hr2 := Int.emod_lt_of_pos (n : Int) (show 0 < hi - lo + 1 by omega)
 rw [<- hr] at hr1 hr2
 have e : amongI lo hi n = lo + r := by unfold amongI; rw [hr]
 rw [e] at hin ⊢
 obtain ⟨w1, hw1⟩ : ∃ w1, w1 = w.alloc (.cells #[.int .i64 lo, .int .i64 hi] 27) := ⟨_, rfl⟩
 have hb1 : Below w.heap.size w w1 := by rw [hw1]; exact (by repeat (first | exact Below.refl _ _ | assumption | (refine Below.alloc ?_ ?_ _; rotate_left; · (first | omega | (simp; done) | (simp; omega) | fail)) | (refine Below.setCell ?_ ?_ _; rotate_left; · (first | omega | (simp; done) | (simp; omega) | fail)) | refine Below.drew ?_ | fail))
 have x1 : w1.heap[w.heap.size]? = some (.cells #[.int .i64 lo, .int .i64 hi] 27 (0, 0)) := by rw [hw1]; exact (by repeat (first | exact heap_alloc_at _ _ _ (by (first | omega | (simp; done) | (simp; omega) | (simp at *; omega) | fail)) | assumption | rw [heap_alloc_past _ _ _ (by (first | omega | (simp; done) | (simp; omega) | (simp at *; omega) | fail))] | rw [heap_setCell_past _ _ _ _ (by (first | omega | (simp; done) | (simp; omega) | (simp at *; omega) | fail))] | fail))
 have c0 := blk_cell x1 0
 have c1 := blk_cell x1 1
 have hne : (hi - lo + 1 == 0) = false := by simp; omega
 have hne2 : ¬ hi - lo + 1 = 0 := by omega
 have HB1 := Lib.hid hb1
 have hr' : (n : Int) % (hi - lo + 1) = r := hr.symm
 clear e hr hb1 x1
 go_enter Tryz.func51, Tryz.ntmps51
 go_wp2_with fail
 rw [<- hw1]
 clear hw1
 go_quiet (fail)
 go_wp2_with fail
 go_ret
 exact ⟨rfl, bdrewN HB1.out _⟩
theorem Made3_any (p : Prs) (vp : Value) (n : Nat) (w : World) (hp : PrsAt w.heap.size w vp p) (he : errP p = 0) (hn : n < 65536) :
  Calls Tryz.prog 48 #[vp, .int .i64 n] w fun e w' => (∃ m, e = .returned (mkwV m) /\ m ∈ makesW p) /\ Below w.heap.size w w' := by
 obtain ⟨⟨f1, f2⟩, ⟨f3, f4⟩, ⟨f5, f6⟩, -⟩ := fine_press he
 have hne := makesW_ne f1 f3 f5
 have hln := makesW_len f2 f4 f6
 have HP := Lib.hid hp
 have HE := Lib.hid he
 obtain ⟨fv, pv, rfl, ⟨a, cap, rfl, -⟩, ⟨a2, cap2, rfl, -⟩, -⟩ := hp
 obtain ⟨n1, hn1⟩ : ∃ n, n = p.fmts.length := ⟨_, rfl⟩
 obtain ⟨n2, hn2⟩ : ∃ n, n = p.pprs.length := ⟨_, rfl⟩
 rw [<- hn1, <- hn2] at HP ⊢
 clear hn1 hn2 he f1 f2 f3 f4 f5 f6
 obtain ⟨k, hk⟩ : ∃ k, (makesW p).length = k + 1 := ⟨(makesW p).length - 1, by cases h : makesW p with | nil => exact absurd h hne | cons _ _ => simp⟩
 rw [hk] at hln
 have HK := Lib.hid hk
 have hlt : n % (k + 1) < k + 1 := Nat.mod_lt _ (by omega)
 obtain ⟨m, hm⟩ : ∃ m, (makesW p)[n % (k + 1)]? = some m := ⟨_, List.getElem?_eq_getElem (by rw [hk]; exact hlt)⟩
 have HM := Lib.hid hm
 clear hk hm hne
 go_enter Tryz.func48, Tryz.ntmps48
 go_wp2_with fail
 have hp0 : Below w.heap.size w ((w.alloc (.cells #[.slice a n1 cap, .slice a2 n2 cap2, .int .i64 p.trim, .int .i64 p.sheets] 25)).alloc (.cells #[.int .i64 0, .int .i64 0, .int .i64 0, .bool false] 50)) := by exact (by repeat (first | exact Below.refl _ _ | assumption | (refine Below.alloc ?_ ?_ _; rotate_left; · (first | omega | (simp; done) | (simp; omega) | fail)) | (refine Below.setCell ?_ ?_ _; rotate_left; · (first | omega | (simp; done) | (simp; omega) | fail)) | refine Below.drew ?_ | fail))
 have bR : ((w.alloc (.cells #[.slice a n1 cap, .slice a2 n2 cap2, .int .i64 p.trim, .int .i64 p.sheets] 25)).alloc (.cells #[.int .i64 0, .int .i64 0, .int .i64 0, .bool false] 50)).heap[w.heap.size + 1]? = some (.cells #[.int .i64 0, .int .i64 0, .int .i64 0, .bool false] 50 (0, 0)) := by exact (by repeat (first | exact heap_alloc_at _ _ _ (by (first | omega | (simp; done) | (simp; omega) | (simp at *; omega) | fail)) | assumption | rw [heap_alloc_past _ _ _ (by (first | omega | (simp; done) | (simp; omega) | (simp at *; omega) | fail))] | rw [heap_setCell_past _ _ _ _ (by (first | omega | (simp; done) | (simp; omega) | (simp at *; omega) | fail))] | fail))
 refine (refMakes2_any p _ _ (HP.out.later hp0) HE.out).mono ?_
 rintro e w2 ⟨⟨v', rfl, hr⟩, hb⟩
 rw [HK.out] at hr
 have HR := Lib.hid hr
 rcases hr.2 with ⟨rfl, h0⟩ | ⟨g, cap', cur, rfl, hgb, hg, rest⟩
 · exact absurd h0 (by omega)
 have hc := HR.out.cells (g := g) (by simp [Value.ownBlock])
 have key : ∀ c u, c < 4 -> (mkC m)[c]? = some u -> w2.cell? ⟨g, n % (k + 1) * 4 + c, none⟩ = some u := fun c u hc4 hu => by
  have := hc (n % (k + 1) * 4 + c) u (by rw [mk_at _ _ _ HM.out c hc4]; exact hu)
  rwa [add_offi] at this
 have q0 : w2.cell? ⟨g, n % (k + 1) * 4, none⟩ = some (.int .i64 m.fmt) := key 0 _ (by omega) rfl
 have q1 := key 1 _ (by omega) rfl
 have q2 := key 2 _ (by omega) rfl
 have q3 := key 3 _ (by omega) rfl
 have bR := blk_later hb bR
 have d0 := blk_cell bR 0
 have d1 := blk_cell bR 1
 have d2 := blk_cell bR 2
 have d3 := blk_cell bR 3
 have z0 := blk_free bR 0
 have z1 := blk_free bR 1
 have z2 := blk_free bR 2
 have z3 := blk_free bR 3
 have hb2 := hp0.trans (hb.mono hp0.size)
 have hsz := blk_lt bR
 clear key hc rest hg hb hp0 hr hgb
 have i1 : (n : Int) % ((k : Int) + 1) < (k : Int) + 1 := Int.emod_lt_of_pos _ (by omega)
 have i2 : 0 <= (n : Int) % ((k : Int) + 1) := Int.emod_nonneg _ (by omega)
 go_wp2_with fail
 have hb3 : Below w.heap.size w ((((w2.setCell ⟨w.heap.size + 1, 0, none⟩ (.int .i64 m.fmt)).setCell ⟨w.heap.size + 1, 1, none⟩ (.int .i64 m.ppr)).setCell ⟨w.heap.size + 1, 2, none⟩ (.int .i64 m.sheets)).setCell ⟨w.heap.size + 1, 3, none⟩ (.bool m.half)) := by exact (by repeat (first | (refine Below.setCell ?_ ?_ _; rotate_left; · (first | omega | (simp; done) | (simp; omega) | fail)) | (refine Below.alloc ?_ ?_ _; rotate_left; · (first | omega | (simp; done) | (simp; omega) | fail)) | refine Below.drew ?_ | exact hb2 | fail))
 have c3 : ((((w2.setCell ⟨w.heap.size + 1, 0, none⟩ (.int .i64 m.fmt)).setCell ⟨w.heap.size + 1, 1, none⟩ (.int .i64 m.ppr)).setCell ⟨w.heap.size + 1, 2, none⟩ (.int .i64 m.sheets)).setCell ⟨w.heap.size + 1, 3, none⟩ (.bool m.half)).heap[w.heap.size + 1]? = some (.cells #[.int .i64 m.fmt, .int .i64 m.ppr, .int .i64 m.sheets, .bool m.half] 50 (0, 0)) := by
  simpa using blk_set (blk_set (blk_set (blk_set bR 0 (.int .i64 m.fmt)) 1 (.int .i64 m.ppr)) 2 (.int .i64 m.sheets)) 3 (.bool m.half)
 have e0 := blk_cell c3 0
 have e1 := blk_cell c3 1
 have e2 := blk_cell c3 2
 have e3 := blk_cell c3 3
 revert hb3 c3 e0 e1 e2 e3
 generalize ((((w2.setCell ⟨w.heap.size + 1, 0, none⟩ (.int .i64 m.fmt)).setCell ⟨w.heap.size + 1, 1, none⟩ (.int .i64 m.ppr)).setCell ⟨w.heap.size + 1, 2, none⟩ (.int .i64 m.sheets)).setCell ⟨w.heap.size + 1, 3, none⟩ (.bool m.half)) = w4
 intro hb3 c3 e0 e1 e2 e3
 exact bodyPost_ret (v := mkwV m) (by simp [results, Tryz.results48, go_sem, e0, e1, e2, e3]) rfl ⟨⟨m, rfl, List.mem_of_getElem? HM.out⟩, hb3⟩
end
end Go.Proofs.YtpdhdgdbknnllaaGreatDoor
