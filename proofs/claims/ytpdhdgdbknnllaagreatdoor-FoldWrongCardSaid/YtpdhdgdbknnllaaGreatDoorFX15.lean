/- The parts Fe of the proof, joined. It holds without conditions of its own. -/
import Derived.Test.YtpdhdgdbknnllaaGreatDoorFX14
import Derived.Test.YtpdhdgdbknnllaaGreatDoorFX9
import Derived.Test.YtpdhdgdbknnllaaGreatDoorFX10
import Derived.Deep.Cut
import Derived.Deep.RegionHeld3
import Derived.DeepKeys3
import Derived.Maps.Keyed
import Derived.Maps.AppendAt
import Derived.Laws.AppendOwnNone
import Derived.Test.YtpdhdgdbknnllaaGreatDoorFX11
set_option maxRecDepth 100000
set_option maxHeartbeats 20000000
namespace Go.Proofs.YtpdhdgdbknnllaaGreatDoor
section
set_option linter.unusedSimpArgs false
set_option linter.unusedVariables false
open Go Go.RowKit Go.Sort Go.BigFrame
theorem meet_any (a b c d : Int) (w : World) :
  Calls Tryz.prog 96 #[.agg #[.int .i64 a, .int .i64 b], .agg #[.int .i64 c, .int .i64 d]] w fun e w' => e = .returned (.bool (decide (a <= d) && decide (c <= b))) /\ Below w.heap.size w w' := by
 have hb2 : Below w.heap.size w ((w.alloc (.cells #[.int .i64 a, .int .i64 b] 27)).alloc (.cells #[.int .i64 c, .int .i64 d] 27)) := by exact (by repeat (first | exact Below.refl _ _ | assumption | (refine Below.alloc ?_ ?_ _; rotate_left; · (first | omega | (simp; done) | (simp; omega) | fail)) | (refine Below.setCell ?_ ?_ _; rotate_left; · (first | omega | (simp; done) | (simp; omega) | fail)) | refine Below.drew ?_ | fail))
 have HB := Lib.hid hb2
 clear hb2
 cases h1 : decide (a <= d) with
 | false =>
   go_enter Tryz.func96, Tryz.ntmps96
   go_wp2_with fail
   go_ret
   exact ⟨by simp, HB.out⟩
 | true =>
   cases h2 : decide (c <= b) with
   | false =>
     go_enter Tryz.func96, Tryz.ntmps96
     go_wp2_with fail
     go_ret
     exact ⟨by simp, HB.out⟩
   | true =>
     go_enter Tryz.func96, Tryz.ntmps96
     go_wp2_with fail
     go_ret
     exact ⟨by simp, HB.out⟩
theorem lastFold_any {D : Fds} (h1 : 1 <= D.length) (h4 : D.length <= 4) (w : World) :
  Calls Tryz.prog 115 #[S (bytesF D)] w fun e w' => e = .returned (.int .i32 (if lastF D then 120 else 121)) /\ w' = w := by
 obtain ⟨kl, hkl, cl, hcl, hlast⟩ := bytesF_last h1
 have hzs : (⟨(bytesF D).toArray⟩ : ByteArray).size = kl + 1 := by rw [size_bytes, hkl]
 have hcl2 : cl = if lastF D then 120 else 121 := by
  have h0 : kl < (⟨(bytesF D).toArray⟩ : ByteArray).size := by rw [hzs]; omega
  have h2 := hlast h0
  have hm : (bytesF D)[kl]? = some cl := by
   have h3 : kl < (bytesF D).length := by omega
   rw [List.getElem?_eq_getElem h3]
   exact congrArg some h2
  have hk2 : kl + 1 = D.length := by rw [<- hkl]; unfold bytesF; simp
  unfold bytesF at hm
  rw [List.getElem?_map, Option.map_eq_some_iff] at hm
  obtain ⟨b, hb, hc⟩ := hm
  have hne : D ≠ [] := fun e => by rw [e] at h1; simp at h1
  have : lastF D = b := by
   unfold lastF
   rw [List.getLastD_eq_getLast?, List.getLast?_eq_getElem?, show D.length - 1 = kl by omega, hb]
   rfl
  rw [this, <- hc]
 have hv : (cl.toNat : Int) = if lastF D then 120 else 121 := by rw [hcl2]; cases lastF D <;> rfl
 rw [<- hv]
 clear hcl2 hv hcl hkl
 have hc8 : cl.toNat < 256 := cl.toNat_lt
 have hkl4 : kl < 4 := by have : (bytesF D).length = D.length := (by unfold bytesF; simp); rw [size_bytes] at hzs; omega
 obtain ⟨bs, hbs⟩ : ∃ bs, bs = bytesF D := ⟨_, rfl⟩
 rw [<- hbs] at hzs hlast ⊢
 clear hbs h1 h4
 go_enter Tryz.func115, Tryz.ntmps115
 go_wp2_with fail
 go_ret
 exact ⟨rfl, rfl⟩
theorem upright_any (m : Mkw) (D : Fds) (c r : Int) (q : Ppr) (tr : Int) (lv : Value) (w : World) (h1 : 1 <= D.length) (h4 : D.length <= 4) :
  Calls Tryz.prog 95 #[.agg (wayC m (bytesF D) c r q tr lv)] w fun e w' => e = .returned (.bool (lastF D)) /\ Below w.heap.size w w' := by
 have hl := fun W => lastFold_any (D := D) h1 h4 W
 have HL := Lib.hid hl
 obtain ⟨b, hb⟩ : ∃ b, b = lastF D := ⟨_, rfl⟩
 rw [<- hb] at HL ⊢
 obtain ⟨bs, hbs⟩ : ∃ bs, bs = bytesF D := ⟨_, rfl⟩
 rw [<- hbs] at HL ⊢
 clear hl hb hbs h1 h4
 have hb0 : Below w.heap.size w (w.alloc (.cells (wayC m bs c r q tr lv) 83)) := (Below.refl _ _).alloc (Nat.le_refl _) _
 have HB := Lib.hid hb0
 clear hb0
 cases b with
 | true =>
   go_enter Tryz.func95, Tryz.ntmps95
   go_wp2_with fail
   refine (HL.out _).mono ?_
   rintro e w2 ⟨rfl, rfl⟩
   go_wp2_with fail
   go_ret
   exact ⟨rfl, HB.out⟩
 | false =>
   go_enter Tryz.func95, Tryz.ntmps95
   go_wp2_with fail
   refine (HL.out _).mono ?_
   rintro e w2 ⟨rfl, rfl⟩
   go_wp2_with fail
   go_ret
   exact ⟨rfl, HB.out⟩
theorem wrap_div (a n k : Nat) (hk : k = a / n) (h : a <= 1000000) : wrap64 ((a : Int) / (n : Int)) = (k : Int) := by
 have e : ((a : Int) / (n : Int)) = (k : Int) := by rw [hk]; simp
 have h2 : k <= a := by rw [hk]; exact Nat.div_le_self _ _
 rw [e]
 unfold wrap64
 omega
theorem part_any (a b n : Nat) (hn : 1 <= n) (hn2 : n <= 16) (ha : a <= 2000) (hb : b <= 2000) (w : World) :
  Calls Tryz.prog 117 #[.agg #[.int .i64 a, .int .i64 b], .int .i64 n] w fun e w' => e = .returned (.agg #[.int .i64 ((a / n : Nat) : Int), .int .i64 ((b / n : Nat) : Int)]) /\ Below w.heap.size w w' := by
 obtain ⟨a1, ha1⟩ : ∃ k, k = a / n := ⟨_, rfl⟩
 obtain ⟨b1, hb1⟩ : ∃ k, k = b / n := ⟨_, rfl⟩
 rw [<- ha1, <- hb1]
 have E1 := Lib.hid (wrap_div a n a1 ha1 (by omega))
 have E2 := Lib.hid (wrap_div b n b1 hb1 (by omega))
 clear ha1 hb1
 obtain ⟨w1, hw1⟩ : ∃ w1, w1 = ((w.alloc (.cells #[.int .i64 a, .int .i64 b] 27)).alloc (.cells #[.int .i64 0, .int .i64 0] 27)) := ⟨_, rfl⟩
 have hb1 : Below w.heap.size w w1 := by rw [hw1]; exact (by repeat (first | exact Below.refl _ _ | assumption | (refine Below.alloc ?_ ?_ _; rotate_left; · (first | omega | (simp; done) | (simp; omega) | fail)) | (refine Below.setCell ?_ ?_ _; rotate_left; · (first | omega | (simp; done) | (simp; omega) | fail)) | refine Below.drew ?_ | fail))
 have h0 : w1.heap[w.heap.size]? = some (.cells #[.int .i64 a, .int .i64 b] 27 (0, 0)) := by rw [hw1]; exact (by repeat (first | exact heap_alloc_at _ _ _ (by (first | omega | (simp; done) | (simp; omega) | (simp at *; omega) | fail)) | assumption | rw [heap_alloc_past _ _ _ (by (first | omega | (simp; done) | (simp; omega) | (simp at *; omega) | fail))] | rw [heap_setCell_past _ _ _ _ (by (first | omega | (simp; done) | (simp; omega) | (simp at *; omega) | fail))] | fail))
 have h1 : w1.heap[w.heap.size + 1]? = some (.cells #[.int .i64 0, .int .i64 0] 27 (0, 0)) := by rw [hw1]; exact (by repeat (first | exact heap_alloc_at _ _ _ (by (first | omega | (simp; done) | (simp; omega) | (simp at *; omega) | fail)) | assumption | rw [heap_alloc_past _ _ _ (by (first | omega | (simp; done) | (simp; omega) | (simp at *; omega) | fail))] | rw [heap_setCell_past _ _ _ _ (by (first | omega | (simp; done) | (simp; omega) | (simp at *; omega) | fail))] | fail))
 have p0 := cell_regrown (blk_cell h0 0)
 have p1 := cell_regrown (blk_cell h0 1)
 go_enter Tryz.func117, Tryz.ntmps117
 go_wp2_with fail
 rw [<- hw1]
 have HB1 := Lib.hid hb1
 have H1 := Lib.hid h1
 clear hw1 hb1 h1 h0
 refine wp_region_below_tail 0 9 (by kernel_rfl) (by kernel_rfl) fun R hR => ?_; simp only [List.take_succ_cons, List.take_zero, List.drop_succ_cons, List.drop_zero, leadA, leadV, Act.put, Act.eval, List.setIfInBounds_toArray, List.set_cons_zero, List.set_cons_succ, Array.getD_eq_getD_getElem?, List.getElem?_toArray, List.getElem?_cons_zero, List.getElem?_cons_succ, Option.getD_some]; (repeat (go_big_quiet_step (fail))); refine wpQuiet_nil ?_; rintro w6 ⟨⟨d6, os6⟩, rfl⟩; have hR := Lib.hid hR
 have HB6 := Lib.hid (HB1.out.trans ((below_regrown w1 d6 os6).mono HB1.out.size))
 have h6 := blk_later (below_regrown w1 d6 os6) H1.out
 clear p0 p1 HB1 H1
 dsimp only
 generalize grow (redrawn w1 d6) os6 = w6 at *
 have H6 := Lib.hid h6
 have c0 := blk_cell h6 0; have c1 := blk_cell h6 1
 have f0 := blk_free h6 0; have f1 := blk_free h6 1
 clear h6
 go_wp2_with fail
 rw [E1.out, E2.out]
 have h7 := blk_set2 H6.out (.int .i64 (a1 : Int)) (.int .i64 (b1 : Int))
 have y0 := blk_cell h7 0
 have y1 := blk_cell h7 1
 exact bodyPost_ret (v := .agg #[.int .i64 (a1 : Int), .int .i64 (b1 : Int)]) (by simp [results, Tryz.results117, go_sem, y0, y1]) rfl ⟨rfl, by exact (by repeat (first | (refine Below.setCell ?_ ?_ _; rotate_left; · (first | omega | (simp; done) | (simp; omega) | fail)) | (refine Below.alloc ?_ ?_ _; rotate_left; · (first | omega | (simp; done) | (simp; omega) | fail)) | refine Below.drew ?_ | exact HB6.out | fail))⟩
def sizesF (a b c d co ro : Nat) (up : Bool) (tr : Int) : Int × Int × Int × Int :=
 if up then (((a / co : Nat) : Int) - tr, ((b / co : Nat) : Int), ((c / ro : Nat) : Int) - 2 * tr, ((d / ro : Nat) : Int)) else (((c / ro : Nat) : Int) - tr, ((d / ro : Nat) : Int), ((a / co : Nat) : Int) - 2 * tr, ((b / co : Nat) : Int))
theorem sizes_any (m : Mkw) (D : Fds) (co ro : Nat) (nm : Bs) (a b c d : Nat) (tr : Int) (lv : Value) (w : World) (h1 : 1 <= D.length) (h4 : D.length <= 4) (hc1 : 1 <= co) (hc2 : co <= 16) (hr1 : 1 <= ro) (hr2 : ro <= 16)
  (ha : a <= 2000) (hb : b <= 2000) (hc : c <= 2000) (hd : d <= 2000) (ht1 : 0 <= tr) (ht2 : tr <= 60) :
  Calls Tryz.prog 94 #[.agg (wayC m (bytesF D) co ro ⟨nm, a, b, c, d⟩ tr lv)] w fun e w' => e = .returned (.tuple #[.agg #[.int .i64 (sizesF a b c d co ro (lastF D) tr).1, .int .i64 (sizesF a b c d co ro (lastF D) tr).2.1], .agg #[.int .i64 (sizesF a b c d co ro (lastF D) tr).2.2.1, .int .i64 (sizesF a b c d co ro (lastF D) tr).2.2.2]]) /\ Below w.heap.size w w' := by
 have HU := Lib.hid (fun W => upright_any m D co ro ⟨nm, a, b, c, d⟩ tr lv W h1 h4)
 obtain ⟨up, hup⟩ : ∃ b, b = lastF D := ⟨_, rfl⟩
 rw [<- hup] at HU ⊢
 obtain ⟨bs, hbs⟩ : ∃ bs, bs = bytesF D := ⟨_, rfl⟩
 rw [<- hbs] at HU ⊢
 clear hup hbs h1 h4
 obtain ⟨xa, ha1⟩ : ∃ n, n = a / co := ⟨_, rfl⟩
 obtain ⟨xb, hb1⟩ : ∃ n, n = b / co := ⟨_, rfl⟩
 obtain ⟨xc, hc1'⟩ : ∃ n, n = c / ro := ⟨_, rfl⟩
 obtain ⟨xd, hd1⟩ : ∃ n, n = d / ro := ⟨_, rfl⟩
 have ba : xa <= 2000 := by rw [ha1]; exact Nat.le_trans (Nat.div_le_self _ _) ha
 have bb : xb <= 2000 := by rw [hb1]; exact Nat.le_trans (Nat.div_le_self _ _) hb
 have bc : xc <= 2000 := by rw [hc1']; exact Nat.le_trans (Nat.div_le_self _ _) hc
 have bd : xd <= 2000 := by rw [hd1]; exact Nat.le_trans (Nat.div_le_self _ _) hd
 have HP1 := Lib.hid (fun W => part_any a b co hc1 hc2 ha hb W)
 have HP2 := Lib.hid (fun W => part_any c d ro hr1 hr2 hc hd W)
 unfold sizesF
 rw [<- ha1, <- hb1, <- hc1', <- hd1]
 rw [<- ha1, <- hb1] at HP1
 rw [<- hc1', <- hd1] at HP2
 clear ha1 hb1 hc1' hd1 hc1 hc2 hr1 hr2 ha hb hc hd
 obtain ⟨w1, hw1⟩ : ∃ w1, w1 = (((w.alloc (.cells #[.int .i64 m.fmt, .int .i64 m.ppr, .int .i64 m.sheets, .bool m.half, S bs, .int .i64 co, .int .i64 ro, S nm, .int .i64 a, .int .i64 b, .int .i64 c, .int .i64 d, .int .i64 tr, lv] 83)).alloc (.cells #[.int .i64 0, .int .i64 0] 27)).alloc (.cells #[.int .i64 0, .int .i64 0] 27)) := ⟨_, rfl⟩
 have hb1 : Below w.heap.size w w1 := by rw [hw1]; exact (by repeat (first | exact Below.refl _ _ | assumption | (refine Below.alloc ?_ ?_ _; rotate_left; · (first | omega | (simp; done) | (simp; omega) | fail)) | (refine Below.setCell ?_ ?_ _; rotate_left; · (first | omega | (simp; done) | (simp; omega) | fail)) | refine Below.drew ?_ | fail))
 have h0 : w1.heap[w.heap.size]? = some (.cells #[.int .i64 m.fmt, .int .i64 m.ppr, .int .i64 m.sheets, .bool m.half, S bs, .int .i64 co, .int .i64 ro, S nm, .int .i64 a, .int .i64 b, .int .i64 c, .int .i64 d, .int .i64 tr, lv] 83 (0, 0)) := by rw [hw1]; exact (by repeat (first | exact heap_alloc_at _ _ _ (by (first | omega | (simp; done) | (simp; omega) | (simp at *; omega) | fail)) | assumption | rw [heap_alloc_past _ _ _ (by (first | omega | (simp; done) | (simp; omega) | (simp at *; omega) | fail))] | rw [heap_setCell_past _ _ _ _ (by (first | omega | (simp; done) | (simp; omega) | (simp at *; omega) | fail))] | fail))
 have h1 : w1.heap[w.heap.size + 1]? = some (.cells #[.int .i64 0, .int .i64 0] 27 (0, 0)) := by rw [hw1]; exact (by repeat (first | exact heap_alloc_at _ _ _ (by (first | omega | (simp; done) | (simp; omega) | (simp at *; omega) | fail)) | assumption | rw [heap_alloc_past _ _ _ (by (first | omega | (simp; done) | (simp; omega) | (simp at *; omega) | fail))] | rw [heap_setCell_past _ _ _ _ (by (first | omega | (simp; done) | (simp; omega) | (simp at *; omega) | fail))] | fail))
 have h2 : w1.heap[w.heap.size + 1 + 1]? = some (.cells #[.int .i64 0, .int .i64 0] 27 (0, 0)) := by rw [hw1]; exact (by repeat (first | exact heap_alloc_at _ _ _ (by (first | omega | (simp; done) | (simp; omega) | (simp at *; omega) | fail)) | assumption | rw [heap_alloc_past _ _ _ (by (first | omega | (simp; done) | (simp; omega) | (simp at *; omega) | fail))] | rw [heap_setCell_past _ _ _ _ (by (first | omega | (simp; done) | (simp; omega) | (simp at *; omega) | fail))] | fail))
 have p5 := cell_regrown (blk_cell h0 5)
 have p6 := cell_regrown (blk_cell h0 6)
 have p8 := cell_regrown (blk_cell h0 8)
 have p9 := cell_regrown (blk_cell h0 9)
 have p10 := cell_regrown (blk_cell h0 10)
 have p11 := cell_regrown (blk_cell h0 11)
 have cA : ∀ d' os, Calls Tryz.prog 117 #[.agg #[.int .i64 a, .int .i64 b], .int .i64 co] (grow (redrawn w1 d') os) (fun e w'' => e = .returned (.agg #[.int .i64 xa, .int .i64 xb]) /\ ∃ p : Regrown, w'' = grow (redrawn w1 p.d) p.os) := fun d' os => Calls.regrown_of (HP1.out _)
 have cB : ∀ d' os, Calls Tryz.prog 117 #[.agg #[.int .i64 c, .int .i64 d], .int .i64 ro] (grow (redrawn w1 d') os) (fun e w'' => e = .returned (.agg #[.int .i64 xc, .int .i64 xd]) /\ ∃ p : Regrown, w'' = grow (redrawn w1 p.d) p.os) := fun d' os => Calls.regrown_of (HP2.out _)
 go_enter Tryz.func94, Tryz.ntmps94
 go_wp2_with fail
 rw [<- hw1]
 have HB1 := Lib.hid hb1
 have H0 := Lib.hid h0
 have H1 := Lib.hid h1
 have H2 := Lib.hid h2
 clear hw1 hb1 h1 h0 h2
 refine wp_region_below_tail 0 12 (by kernel_rfl) (by kernel_rfl) fun R hR => ?_; simp only [List.take_succ_cons, List.take_zero, List.drop_succ_cons, List.drop_zero, leadA, leadV, Act.put, Act.eval, List.setIfInBounds_toArray, List.set_cons_zero, List.set_cons_succ, Array.getD_eq_getD_getElem?, List.getElem?_toArray, List.getElem?_cons_zero, List.getElem?_cons_succ, Option.getD_some]; (repeat (go_big_quiet_step (with_reducible (first | exact cA _ _ | exact cB _ _)))); refine wpQuiet_nil ?_; rintro w6 ⟨⟨d6, os6⟩, rfl⟩; have hR := Lib.hid hR
 have HB6 := Lib.hid (HB1.out.trans ((below_regrown w1 d6 os6).mono HB1.out.size))
 have h0 := blk_later (below_regrown w1 d6 os6) H0.out
 have h1 := blk_later (below_regrown w1 d6 os6) H1.out
 have h2 := blk_later (below_regrown w1 d6 os6) H2.out
 clear p5 p6 p8 p9 p10 p11 cA cB HB1 H0 H1 H2
 dsimp only
 generalize grow (redrawn w1 d6) os6 = w6 at *
 have H0 := Lib.hid h0
 have H1 := Lib.hid h1
 have H2 := Lib.hid h2
 have c0 := blk_cell h1 0; have c1 := blk_cell h1 1
 have f0 := blk_free h1 0; have f1 := blk_free h1 1
 have d0 := blk_cell h2 0; have d1 := blk_cell h2 1
 have g0 := blk_free h2 0; have g1 := blk_free h2 1
 clear h0 h1 h2
 go_upto_region 2 with fail
 obtain ⟨w7, hw7⟩ : ∃ w7, w7 = ((((w6.setCell ⟨w.heap.size + 1, 0, none⟩ (.int .i64 xa)).setCell ⟨w.heap.size + 1, 1, none⟩ (.int .i64 xb)).setCell ⟨w.heap.size + 1 + 1, 0, none⟩ (.int .i64 xc)).setCell ⟨w.heap.size + 1 + 1, 1, none⟩ (.int .i64 xd)) := ⟨_, rfl⟩
 rw [<- hw7]
 have HB7 := Lib.hid (show Below w.heap.size w w7 by rw [hw7]; exact (by repeat (first | (refine Below.setCell ?_ ?_ _; rotate_left; · (first | omega | (simp; done) | (simp; omega) | fail)) | (refine Below.alloc ?_ ?_ _; rotate_left; · (first | omega | (simp; done) | (simp; omega) | fail)) | refine Below.drew ?_ | exact HB6.out | fail)))
 have h0 : w7.heap[w.heap.size]? = some (.cells #[.int .i64 m.fmt, .int .i64 m.ppr, .int .i64 m.sheets, .bool m.half, S bs, .int .i64 co, .int .i64 ro, S nm, .int .i64 a, .int .i64 b, .int .i64 c, .int .i64 d, .int .i64 tr, lv] 83 (0, 0)) := by rw [hw7]; exact (by repeat (first | (refine (heap_setCell_past _ _ _ _ ?_).trans ?_; · (first | omega | (simp; done) | (simp; omega) | fail)) | (refine (heap_alloc_past _ _ _ ?_).trans ?_; · (first | omega | (simp; done) | (simp; omega) | fail)) | exact H0.out | fail))
 have H17 := Lib.hid (show w7.heap[w.heap.size + 1]? = some (.cells #[.int .i64 xa, .int .i64 xb] 27 (0, 0)) by rw [hw7]; exact (by repeat (first | (refine (heap_setCell_past _ _ _ _ ?_).trans ?_; · (first | omega | (simp; done) | (simp; omega) | fail)) | (refine (heap_alloc_past _ _ _ ?_).trans ?_; · (first | omega | (simp; done) | (simp; omega) | fail)) | exact blk_set2 H1.out _ _ | fail)))
 have H27 := Lib.hid (show w7.heap[w.heap.size + 1 + 1]? = some (.cells #[.int .i64 xc, .int .i64 xd] 27 (0, 0)) by rw [hw7]; exact blk_set2 (by exact (by repeat (first | (refine (heap_setCell_past _ _ _ _ ?_).trans ?_; · (first | omega | (simp; done) | (simp; omega) | fail)) | (refine (heap_alloc_past _ _ _ ?_).trans ?_; · (first | omega | (simp; done) | (simp; omega) | fail)) | exact H2.out | fail))) _ _)
 have H07 := Lib.hid h0
 clear hw7 H0 H1 H2 HB6 c0 c1 d0 d1 f0 f1 g0 g1
 have p0 := blk_cell h0 0
 have p1 := blk_cell h0 1
 have p2 := blk_cell h0 2
 have p3 := blk_cell h0 3
 have p4 := blk_cell h0 4
 have p5 := blk_cell h0 5
 have p6 := blk_cell h0 6
 have p7 := blk_cell h0 7
 have p8 := blk_cell h0 8
 have p9 := blk_cell h0 9
 have p10 := blk_cell h0 10
 have p11 := blk_cell h0 11
 have p12 := blk_cell h0 12
 have p13 := blk_cell h0 13
 clear h0
 go_wp2_with fail
 refine (HU.out _).mono ?_
 rintro e w8 ⟨rfl, hb⟩
 have HB8 := Lib.hid (HB7.out.trans (hb.mono HB7.out.size))
 have h0 := blk_later hb H07.out
 have h1 := blk_later hb H17.out
 have h2 := blk_later hb H27.out
 have H08 := Lib.hid h0
 have H18 := Lib.hid h1
 have H28 := Lib.hid h2
 clear hb p0 p1 p2 p3 p4 p5 p6 p7 p8 p9 p10 p11 p12 p13 HB7 H07 H17 H27
 have p12 := blk_cell h0 12
 have c0 := blk_cell h1 0; have c1 := blk_cell h1 1
 have f0 := blk_free h1 0; have f1 := blk_free h1 1
 have d0 := blk_cell h2 0; have d1 := blk_cell h2 1
 have g0 := blk_free h2 0; have g1 := blk_free h2 1
 clear h0 h1 h2
 cases up with
 | true =>
   go_upto_region 4 with fail
   obtain ⟨w9, hw9⟩ : ∃ w9, w9 = w8 := ⟨_, rfl⟩
   first | rw [<- hw9] | skip
   have HB9 := Lib.hid (show Below w.heap.size w w9 by rw [hw9]; exact (by repeat (first | (refine Below.setCell ?_ ?_ _; rotate_left; · (first | omega | (simp; done) | (simp; omega) | fail)) | (refine Below.alloc ?_ ?_ _; rotate_left; · (first | omega | (simp; done) | (simp; omega) | fail)) | refine Below.drew ?_ | exact HB8.out | fail)))
   have h0 : w9.heap[w.heap.size]? = some (.cells #[.int .i64 m.fmt, .int .i64 m.ppr, .int .i64 m.sheets, .bool m.half, S bs, .int .i64 co, .int .i64 ro, S nm, .int .i64 a, .int .i64 b, .int .i64 c, .int .i64 d, .int .i64 tr, lv] 83 (0, 0)) := by rw [hw9]; exact (by repeat (first | (refine (heap_setCell_past _ _ _ _ ?_).trans ?_; · (first | omega | (simp; done) | (simp; omega) | fail)) | (refine (heap_alloc_past _ _ _ ?_).trans ?_; · (first | omega | (simp; done) | (simp; omega) | fail)) | exact H08.out | fail))
   have h1 : w9.heap[w.heap.size + 1]? = some (.cells #[.int .i64 (xa : Int), .int .i64 (xb : Int)] 27 (0, 0)) := by rw [hw9]; first | exact H18.out | exact (by repeat (first | (refine (heap_setCell_past _ _ _ _ ?_).trans ?_; · (first | omega | (simp; done) | (simp; omega) | fail)) | (refine (heap_alloc_past _ _ _ ?_).trans ?_; · (first | omega | (simp; done) | (simp; omega) | fail)) | exact blk_set2 H18.out _ _ | fail))
   have h2 : w9.heap[w.heap.size + 1 + 1]? = some (.cells #[.int .i64 (xc : Int), .int .i64 (xd : Int)] 27 (0, 0)) := by rw [hw9]; first | exact H28.out | exact blk_set2 (by exact (by repeat (first | (refine (heap_setCell_past _ _ _ _ ?_).trans ?_; · (first | omega | (simp; done) | (simp; omega) | fail)) | (refine (heap_alloc_past _ _ _ ?_).trans ?_; · (first | omega | (simp; done) | (simp; omega) | fail)) | exact H28.out | fail))) _ _
   clear hw9 HB8 H08 H18 H28 c0 c1 d0 d1 f0 f1 g0 g1 p12
   have H19 := Lib.hid h1
   have H29 := Lib.hid h2
   have p12 := blk_cell h0 12
   have c0 := blk_cell h1 0; have c1 := blk_cell h1 1
   have f0 := blk_free h1 0; have f1 := blk_free h1 1
   have d0 := blk_cell h2 0; have d1 := blk_cell h2 1
   have g0 := blk_free h2 0; have g1 := blk_free h2 1
   clear h0 h1 h2
   go_upto_region 6 with fail
   obtain ⟨w10, hw10⟩ : ∃ w10, w10 = (w9.setCell ⟨w.heap.size + 1, 0, none⟩ (.int .i64 (((xa : Int) : Int) - tr))).setCell ⟨w.heap.size + 1 + 1, 0, none⟩ (.int .i64 (((xc : Int) : Int) - 2 * tr)) := ⟨_, rfl⟩
   rw [<- hw10]
   have HB10 := Lib.hid (show Below w.heap.size w w10 by rw [hw10]; exact (by repeat (first | (refine Below.setCell ?_ ?_ _; rotate_left; · (first | omega | (simp; done) | (simp; omega) | fail)) | (refine Below.alloc ?_ ?_ _; rotate_left; · (first | omega | (simp; done) | (simp; omega) | fail)) | refine Below.drew ?_ | exact HB9.out | fail)))
   have h1 : w10.heap[w.heap.size + 1]? = some (.cells #[.int .i64 (((xa : Int) : Int) - tr), .int .i64 (xb : Int)] 27 (0, 0)) := by
    rw [hw10]
    have := blk_set H19.out 0 (.int .i64 (((xa : Int) : Int) - tr))
    exact (by repeat (first | (refine (heap_setCell_past _ _ _ _ ?_).trans ?_; · (first | omega | (simp; done) | (simp; omega) | fail)) | (refine (heap_alloc_past _ _ _ ?_).trans ?_; · (first | omega | (simp; done) | (simp; omega) | fail)) | exact this | fail))
   have h2 : w10.heap[w.heap.size + 1 + 1]? = some (.cells #[.int .i64 (((xc : Int) : Int) - 2 * tr), .int .i64 (xd : Int)] 27 (0, 0)) := by
    rw [hw10]
    have h29 : (w9.setCell ⟨w.heap.size + 1, 0, none⟩ (.int .i64 (((xa : Int) : Int) - tr))).heap[w.heap.size + 1 + 1]? = some (.cells #[.int .i64 (xc : Int), .int .i64 (xd : Int)] 27 (0, 0)) := by exact (by repeat (first | (refine (heap_setCell_past _ _ _ _ ?_).trans ?_; · (first | omega | (simp; done) | (simp; omega) | fail)) | (refine (heap_alloc_past _ _ _ ?_).trans ?_; · (first | omega | (simp; done) | (simp; omega) | fail)) | exact H29.out | fail))
    exact blk_set h29 0 (.int .i64 (((xc : Int) : Int) - 2 * tr))
   clear hw10 HB9 H19 H29 c0 c1 d0 d1 f0 f1 g0 g1 p12
   have H110 := Lib.hid h1
   have H210 := Lib.hid h2
   have c0 := blk_cell h1 0; have c1 := blk_cell h1 1
   have f0 := blk_free h1 0; have f1 := blk_free h1 1
   have d0 := blk_cell h2 0; have d1 := blk_cell h2 1
   have g0 := blk_free h2 0; have g1 := blk_free h2 1
   clear h1 h2
   go_region
   obtain ⟨w11, hw11⟩ : ∃ w11, w11 = ((((w10.setCell ⟨w.heap.size + 1, 0, none⟩ (.int .i64 (((xa : Int) : Int) - tr))).setCell ⟨w.heap.size + 1, 1, none⟩ (.int .i64 (xb : Int))).setCell ⟨w.heap.size + 1 + 1, 0, none⟩ (.int .i64 (((xc : Int) : Int) - 2 * tr))).setCell ⟨w.heap.size + 1 + 1, 1, none⟩ (.int .i64 (xd : Int))) := ⟨_, rfl⟩
   rw [<- hw11]
   have h1 : w11.drew.heap[w.heap.size + 1]? = some (.cells #[.int .i64 (((xa : Int) : Int) - tr), .int .i64 (xb : Int)] 27 (0, 0)) := by
    show w11.heap[w.heap.size + 1]? = _
    rw [hw11]
    exact (by repeat (first | (refine (heap_setCell_past _ _ _ _ ?_).trans ?_; · (first | omega | (simp; done) | (simp; omega) | fail)) | (refine (heap_alloc_past _ _ _ ?_).trans ?_; · (first | omega | (simp; done) | (simp; omega) | fail)) | exact blk_set2 H110.out _ _ | fail))
   have h2 : w11.drew.heap[w.heap.size + 1 + 1]? = some (.cells #[.int .i64 (((xc : Int) : Int) - 2 * tr), .int .i64 (xd : Int)] 27 (0, 0)) := by
    show w11.heap[w.heap.size + 1 + 1]? = _
    rw [hw11]
    exact blk_set2 (by exact (by repeat (first | (refine (heap_setCell_past _ _ _ _ ?_).trans ?_; · (first | omega | (simp; done) | (simp; omega) | fail)) | (refine (heap_alloc_past _ _ _ ?_).trans ?_; · (first | omega | (simp; done) | (simp; omega) | fail)) | exact H210.out | fail))) _ _
   have HB11 := Lib.hid (show Below w.heap.size w w11.drew by refine Below.drew ?_; rw [hw11]; exact (by repeat (first | (refine Below.setCell ?_ ?_ _; rotate_left; · (first | omega | (simp; done) | (simp; omega) | fail)) | (refine Below.alloc ?_ ?_ _; rotate_left; · (first | omega | (simp; done) | (simp; omega) | fail)) | refine Below.drew ?_ | exact HB10.out | fail)))
   clear hw11 c0 c1 d0 d1 f0 f1 g0 g1 HB10 H110 H210
   have y0 := blk_cell h1 0
   have y1 := blk_cell h1 1
   have y2 := blk_cell h2 0
   have y3 := blk_cell h2 1
   clear h1 h2
   go_wp2_with fail
   exact bodyPost_ret (v := .tuple #[.agg #[.int .i64 (((xa : Int) : Int) - tr), .int .i64 (xb : Int)], .agg #[.int .i64 (((xc : Int) : Int) - 2 * tr), .int .i64 (xd : Int)]]) (by simp [results, Tryz.results94, go_sem, y0, y1, y2, y3]) rfl ⟨rfl, HB11.out⟩
 | false =>
   go_upto_region 4 with fail
   obtain ⟨w9, hw9⟩ : ∃ w9, w9 = ((((w8.setCell ⟨w.heap.size + 1, 0, none⟩ (.int .i64 xc)).setCell ⟨w.heap.size + 1, 1, none⟩ (.int .i64 xd)).setCell ⟨w.heap.size + 1 + 1, 0, none⟩ (.int .i64 xa)).setCell ⟨w.heap.size + 1 + 1, 1, none⟩ (.int .i64 xb)) := ⟨_, rfl⟩
   first | rw [<- hw9] | skip
   have HB9 := Lib.hid (show Below w.heap.size w w9 by rw [hw9]; exact (by repeat (first | (refine Below.setCell ?_ ?_ _; rotate_left; · (first | omega | (simp; done) | (simp; omega) | fail)) | (refine Below.alloc ?_ ?_ _; rotate_left; · (first | omega | (simp; done) | (simp; omega) | fail)) | refine Below.drew ?_ | exact HB8.out | fail)))
   have h0 : w9.heap[w.heap.size]? = some (.cells #[.int .i64 m.fmt, .int .i64 m.ppr, .int .i64 m.sheets, .bool m.half, S bs, .int .i64 co, .int .i64 ro, S nm, .int .i64 a, .int .i64 b, .int .i64 c, .int .i64 d, .int .i64 tr, lv] 83 (0, 0)) := by rw [hw9]; exact (by repeat (first | (refine (heap_setCell_past _ _ _ _ ?_).trans ?_; · (first | omega | (simp; done) | (simp; omega) | fail)) | (refine (heap_alloc_past _ _ _ ?_).trans ?_; · (first | omega | (simp; done) | (simp; omega) | fail)) | exact H08.out | fail))
   have h1 : w9.heap[w.heap.size + 1]? = some (.cells #[.int .i64 (xc : Int), .int .i64 (xd : Int)] 27 (0, 0)) := by rw [hw9]; first | exact H18.out | exact (by repeat (first | (refine (heap_setCell_past _ _ _ _ ?_).trans ?_; · (first | omega | (simp; done) | (simp; omega) | fail)) | (refine (heap_alloc_past _ _ _ ?_).trans ?_; · (first | omega | (simp; done) | (simp; omega) | fail)) | exact blk_set2 H18.out _ _ | fail))
   have h2 : w9.heap[w.heap.size + 1 + 1]? = some (.cells #[.int .i64 (xa : Int), .int .i64 (xb : Int)] 27 (0, 0)) := by rw [hw9]; first | exact H28.out | exact blk_set2 (by exact (by repeat (first | (refine (heap_setCell_past _ _ _ _ ?_).trans ?_; · (first | omega | (simp; done) | (simp; omega) | fail)) | (refine (heap_alloc_past _ _ _ ?_).trans ?_; · (first | omega | (simp; done) | (simp; omega) | fail)) | exact H28.out | fail))) _ _
   clear hw9 HB8 H08 H18 H28 c0 c1 d0 d1 f0 f1 g0 g1 p12
   have H19 := Lib.hid h1
   have H29 := Lib.hid h2
   have p12 := blk_cell h0 12
   have c0 := blk_cell h1 0; have c1 := blk_cell h1 1
   have f0 := blk_free h1 0; have f1 := blk_free h1 1
   have d0 := blk_cell h2 0; have d1 := blk_cell h2 1
   have g0 := blk_free h2 0; have g1 := blk_free h2 1
   clear h0 h1 h2
   go_upto_region 6 with fail
   obtain ⟨w10, hw10⟩ : ∃ w10, w10 = (w9.setCell ⟨w.heap.size + 1, 0, none⟩ (.int .i64 (((xc : Int) : Int) - tr))).setCell ⟨w.heap.size + 1 + 1, 0, none⟩ (.int .i64 (((xa : Int) : Int) - 2 * tr)) := ⟨_, rfl⟩
   rw [<- hw10]
   have HB10 := Lib.hid (show Below w.heap.size w w10 by rw [hw10]; exact (by repeat (first | (refine Below.setCell ?_ ?_ _; rotate_left; · (first | omega | (simp; done) | (simp; omega) | fail)) | (refine Below.alloc ?_ ?_ _; rotate_left; · (first | omega | (simp; done) | (simp; omega) | fail)) | refine Below.drew ?_ | exact HB9.out | fail)))
   have h1 : w10.heap[w.heap.size + 1]? = some (.cells #[.int .i64 (((xc : Int) : Int) - tr), .int .i64 (xd : Int)] 27 (0, 0)) := by
    rw [hw10]
    have := blk_set H19.out 0 (.int .i64 (((xc : Int) : Int) - tr))
    exact (by repeat (first | (refine (heap_setCell_past _ _ _ _ ?_).trans ?_; · (first | omega | (simp; done) | (simp; omega) | fail)) | (refine (heap_alloc_past _ _ _ ?_).trans ?_; · (first | omega | (simp; done) | (simp; omega) | fail)) | exact this | fail))
   have h2 : w10.heap[w.heap.size + 1 + 1]? = some (.cells #[.int .i64 (((xa : Int) : Int) - 2 * tr), .int .i64 (xb : Int)] 27 (0, 0)) := by
    rw [hw10]
    have h29 : (w9.setCell ⟨w.heap.size + 1, 0, none⟩ (.int .i64 (((xc : Int) : Int) - tr))).heap[w.heap.size + 1 + 1]? = some (.cells #[.int .i64 (xa : Int), .int .i64 (xb : Int)] 27 (0, 0)) := by exact (by repeat (first | (refine (heap_setCell_past _ _ _ _ ?_).trans ?_; · (first | omega | (simp; done) | (simp; omega) | fail)) | (refine (heap_alloc_past _ _ _ ?_).trans ?_; · (first | omega | (simp; done) | (simp; omega) | fail)) | exact H29.out | fail))
    exact blk_set h29 0 (.int .i64 (((xa : Int) : Int) - 2 * tr))
   clear hw10 HB9 H19 H29 c0 c1 d0 d1 f0 f1 g0 g1 p12
   have H110 := Lib.hid h1
   have H210 := Lib.hid h2
   have c0 := blk_cell h1 0; have c1 := blk_cell h1 1
   have f0 := blk_free h1 0; have f1 := blk_free h1 1
   have d0 := blk_cell h2 0; have d1 := blk_cell h2 1
   have g0 := blk_free h2 0; have g1 := blk_free h2 1
   clear h1 h2
   go_region
   obtain ⟨w11, hw11⟩ : ∃ w11, w11 = ((((w10.setCell ⟨w.heap.size + 1, 0, none⟩ (.int .i64 (((xc : Int) : Int) - tr))).setCell ⟨w.heap.size + 1, 1, none⟩ (.int .i64 (xd : Int))).setCell ⟨w.heap.size + 1 + 1, 0, none⟩ (.int .i64 (((xa : Int) : Int) - 2 * tr))).setCell ⟨w.heap.size + 1 + 1, 1, none⟩ (.int .i64 (xb : Int))) := ⟨_, rfl⟩
   rw [<- hw11]
   have h1 : w11.drew.heap[w.heap.size + 1]? = some (.cells #[.int .i64 (((xc : Int) : Int) - tr), .int .i64 (xd : Int)] 27 (0, 0)) := by
    show w11.heap[w.heap.size + 1]? = _
    rw [hw11]
    exact (by repeat (first | (refine (heap_setCell_past _ _ _ _ ?_).trans ?_; · (first | omega | (simp; done) | (simp; omega) | fail)) | (refine (heap_alloc_past _ _ _ ?_).trans ?_; · (first | omega | (simp; done) | (simp; omega) | fail)) | exact blk_set2 H110.out _ _ | fail))
   have h2 : w11.drew.heap[w.heap.size + 1 + 1]? = some (.cells #[.int .i64 (((xa : Int) : Int) - 2 * tr), .int .i64 (xb : Int)] 27 (0, 0)) := by
    show w11.heap[w.heap.size + 1 + 1]? = _
    rw [hw11]
    exact blk_set2 (by exact (by repeat (first | (refine (heap_setCell_past _ _ _ _ ?_).trans ?_; · (first | omega | (simp; done) | (simp; omega) | fail)) | (refine (heap_alloc_past _ _ _ ?_).trans ?_; · (first | omega | (simp; done) | (simp; omega) | fail)) | exact H210.out | fail))) _ _
   have HB11 := Lib.hid (show Below w.heap.size w w11.drew by refine Below.drew ?_; rw [hw11]; exact (by repeat (first | (refine Below.setCell ?_ ?_ _; rotate_left; · (first | omega | (simp; done) | (simp; omega) | fail)) | (refine Below.alloc ?_ ?_ _; rotate_left; · (first | omega | (simp; done) | (simp; omega) | fail)) | refine Below.drew ?_ | exact HB10.out | fail)))
   clear hw11 c0 c1 d0 d1 f0 f1 g0 g1 HB10 H110 H210
   have y0 := blk_cell h1 0
   have y1 := blk_cell h1 1
   have y2 := blk_cell h2 0
   have y3 := blk_cell h2 1
   clear h1 h2
   go_wp2_with fail
   exact bodyPost_ret (v := .tuple #[.agg #[.int .i64 (((xc : Int) : Int) - tr), .int .i64 (xd : Int)], .agg #[.int .i64 (((xa : Int) : Int) - 2 * tr), .int .i64 (xb : Int)]]) (by simp [results, Tryz.results94, go_sem, y0, y1, y2, y3]) rfl ⟨rfl, HB11.out⟩
end
end Go.Proofs.YtpdhdgdbknnllaaGreatDoor
