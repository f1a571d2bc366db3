/- The parts Hw of the proof, joined. It holds without conditions of its own. -/
import Derived.Test.YtpdhdgdbknnllaaGreatDoorFX27
set_option maxRecDepth 100000
set_option maxHeartbeats 20000000
namespace Go.Proofs.YtpdhdgdbknnllaaGreatDoor
section
set_option linter.unusedSimpArgs false
set_option linter.unusedVariables false
open Go Go.RowKit Go.Sort Go.BigFrame
attribute [local go_sem high] run_min_is run_max_is
def slotA (a : Act) (i : Nat) : Value := a.tmps.toList.getD i undef
theorem Told_any (p : Prs) (ma sa ha la : List Nat) (mv sv hv lv : Value) (bits : Nat) (hbits : bits < 256) (vp : Value) (w : World) (hp : PrsAt w.heap.size w vp p) (he : errP p = 0) (h1 : U16sAt w mv ma) (h2 : U16sAt w sv sa) (h3 : U16sAt w hv ha) (h4 : U16sAt w lv la) :
  Calls Tryz.prog 18 #[vp, .agg #[mv, sv, hv, lv], .int .u8 bits] w fun e w' => (∃ m mk, m ∈ makesW p /\ e = .returned (.tuple #[.agg #[.int .i64 (toldT p m sa ha la bits).leaves, .int .i64 (toldT p m sa ha la bits).chain, .int .i64 (toldT p m sa ha la bits).wlo, .int .i64 (toldT p m sa ha la bits).whi, .int .i64 (toldT p m sa ha la bits).hlo, .int .i64 (toldT p m sa ha la bits).hhi, mk], mkwV m]) /\
   RowsAt 2 mrkV w'.heap.size w' mk (toldT p m sa ha la bits).marks) /\ Below w.heap.size w w' := by
 have HP := Lib.hid hp
 have HE := Lib.hid he
 have H1 := Lib.hid h1
 have H2 := Lib.hid h2
 have H3 := Lib.hid h3
 have H4 := Lib.hid h4
 obtain ⟨fv, pv, rfl, ⟨a, cap, rfl, -⟩, ⟨a2, cap2, rfl, -⟩, -⟩ := hp
 obtain ⟨a3, cap3, rfl, -⟩ := h1
 obtain ⟨a4, cap4, rfl, -⟩ := h2
 obtain ⟨a5, cap5, rfl, -⟩ := h3
 obtain ⟨a6, cap6, rfl, -⟩ := h4
 obtain ⟨n1, hn1⟩ : ∃ n, n = p.fmts.length := ⟨_, rfl⟩
 obtain ⟨n2, hn2⟩ : ∃ n, n = p.pprs.length := ⟨_, rfl⟩
 obtain ⟨n3, hn3⟩ : ∃ n, n = ma.length := ⟨_, rfl⟩
 obtain ⟨n4, hn4⟩ : ∃ n, n = sa.length := ⟨_, rfl⟩
 obtain ⟨n5, hn5⟩ : ∃ n, n = ha.length := ⟨_, rfl⟩
 obtain ⟨n6, hn6⟩ : ∃ n, n = la.length := ⟨_, rfl⟩
 rw [<- hn1, <- hn2] at HP ⊢
 rw [<- hn3] at H1 ⊢
 rw [<- hn4] at H2 ⊢
 rw [<- hn5] at H3 ⊢
 rw [<- hn6] at H4 ⊢
 clear hn1 hn2 hn3 hn4 hn5 hn6 he
 go_enter Tryz.func18, Tryz.ntmps18
 go_wp2_with fail
 obtain ⟨w1, hw1⟩ : ∃ w1, w1 = ((((w.alloc (.cells #[.slice a n1 cap, .slice a2 n2 cap2, .int .i64 p.trim, .int .i64 p.sheets] 25)).alloc (.cells #[.slice a3 n3 cap3, .slice a4 n4 cap4, .slice a5 n5 cap5, .slice a6 n6 cap6] 46)).alloc (.cells #[.int .i64 0, .int .i64 0, .int .i64 0, .int .i64 0, .int .i64 0, .int .i64 0, .slice none 0 0] 30)).alloc (.cells #[.int .i64 0, .int .i64 0, .int .i64 0, .bool false] 50)) := ⟨_, rfl⟩
 have hb1 : Below w.heap.size w w1 := by rw [hw1]; exact (by repeat (first | exact Below.refl _ _ | assumption | (refine Below.alloc ?_ ?_ _; rotate_left; · (first | omega | (simp; done) | (simp; omega) | fail)) | (refine Below.setCell ?_ ?_ _; rotate_left; · (first | omega | (simp; done) | (simp; omega) | fail)) | refine Below.drew ?_ | fail))
 have x1 : w1.heap[w.heap.size]? = some (.cells #[.slice a n1 cap, .slice a2 n2 cap2, .int .i64 p.trim, .int .i64 p.sheets] 25 (0, 0)) := by rw [hw1]; exact (by repeat (first | exact heap_alloc_at _ _ _ (by (first | omega | (simp; done) | (simp; omega) | (simp at *; omega) | fail)) | assumption | rw [heap_alloc_past _ _ _ (by (first | omega | (simp; done) | (simp; omega) | (simp at *; omega) | fail))] | rw [heap_setCell_past _ _ _ _ (by (first | omega | (simp; done) | (simp; omega) | (simp at *; omega) | fail))] | fail))
 have x2 : w1.heap[w.heap.size + 1]? = some (.cells #[.slice a3 n3 cap3, .slice a4 n4 cap4, .slice a5 n5 cap5, .slice a6 n6 cap6] 46 (0, 0)) := by rw [hw1]; exact (by repeat (first | exact heap_alloc_at _ _ _ (by (first | omega | (simp; done) | (simp; omega) | (simp at *; omega) | fail)) | assumption | rw [heap_alloc_past _ _ _ (by (first | omega | (simp; done) | (simp; omega) | (simp at *; omega) | fail))] | rw [heap_setCell_past _ _ _ _ (by (first | omega | (simp; done) | (simp; omega) | (simp at *; omega) | fail))] | fail))
 have hz1 : w1.heap.size = w.heap.size + 4 := by rw [hw1]; simp
 rw [<- hw1]
 have HB1 := Lib.hid hb1
 have X1 := Lib.hid x1
 have X2 := Lib.hid x2
 have HZ1 := Lib.hid hz1
 have x3 : w1.heap[w.heap.size + 2]? = some (.cells #[.int .i64 0, .int .i64 0, .int .i64 0, .int .i64 0, .int .i64 0, .int .i64 0, .slice none 0 0] 30 (0, 0)) := by rw [hw1]; exact (by repeat (first | exact heap_alloc_at _ _ _ (by (first | omega | (simp; done) | (simp; omega) | (simp at *; omega) | fail)) | assumption | rw [heap_alloc_past _ _ _ (by (first | omega | (simp; done) | (simp; omega) | (simp at *; omega) | fail))] | rw [heap_setCell_past _ _ _ _ (by (first | omega | (simp; done) | (simp; omega) | (simp at *; omega) | fail))] | fail))
 have x4 : w1.heap[w.heap.size + 3]? = some (.cells #[.int .i64 0, .int .i64 0, .int .i64 0, .bool false] 50 (0, 0)) := by rw [hw1]; exact (by repeat (first | exact heap_alloc_at _ _ _ (by (first | omega | (simp; done) | (simp; omega) | (simp at *; omega) | fail)) | assumption | rw [heap_alloc_past _ _ _ (by (first | omega | (simp; done) | (simp; omega) | (simp at *; omega) | fail))] | rw [heap_setCell_past _ _ _ _ (by (first | omega | (simp; done) | (simp; omega) | (simp at *; omega) | fail))] | fail))
 have X3 := Lib.hid x3
 have X4 := Lib.hid x4
 clear x3 x4 hw1
 obtain ⟨Z, hZ⟩ : ∃ Z, Z = w1.heap.size := ⟨_, rfl⟩
 have hZ4 : Z = w.heap.size + 4 := by omega
 have HZ := Lib.hid hZ
 clear hz1 hZ
 refine wp_cut (fun e a' w' => match e with | .normal => (∃ (m : Mkw) (O : Nat) (q0 q1 q2 q3 q4 : Value), a' = ⟨#[(.agg #[.slice a n1 cap, .slice a2 n2 cap2, .int .i64 p.trim, .int .i64 p.sheets]), (.agg #[.slice a3 n3 cap3, .slice a4 n4 cap4, .slice a5 n5 cap5, .slice a6 n6 cap6]), (.int .u8 (bits : Int)), (.pointer (some ⟨w.heap.size, 0, none⟩)), (.pointer (some ⟨w.heap.size + 1, 0, none⟩)), undef, (.pointer (some ⟨w.heap.size + 1 + 1, 0, none⟩)), (.pointer (some ⟨w.heap.size + 1 + 1 + 1, 0, none⟩)), (.pointer (some ⟨O, 0, none⟩)), undef, undef, undef, undef, undef, undef, undef, undef, (q0), (q1), (q2), (q3), (q4), undef, undef, undef, undef, undef, undef, undef, undef, undef, undef, undef, undef, undef, undef, undef, undef, undef, undef, undef, undef, undef, undef, undef, undef, undef, undef, undef, undef, undef, undef, undef, undef, undef, undef, undef, undef, undef, undef, undef, undef, undef, undef, undef, undef, undef, undef, undef, undef, undef, undef, undef, undef, undef, undef, undef, undef, undef, undef, undef, undef, undef, undef, undef, undef, undef, undef, undef, undef, undef, undef, undef, undef, undef, undef, undef, undef, undef, undef, undef, undef, undef, undef, undef, undef, undef, undef, undef, undef, undef, undef, undef, undef, undef, undef, undef, undef, undef, undef, undef, undef, undef, undef, undef, undef, undef, undef, undef, undef, undef, undef, undef, undef, undef, undef, undef, undef, undef, undef, undef, undef, undef, undef, undef, undef, undef, undef, undef, undef, undef, undef, undef, undef, undef, undef, undef, undef, undef, undef], []⟩ /\ m ∈ makesW p /\ Z <= O /\ Hid (Below w.heap.size w w') /\ Hid (∀ k, k < Z -> w'.heap[k]? = w1.heap[k]?) /\ Hid (w'.heap[O]? = some (.cells #[.int .i64 m.fmt, .int .i64 m.ppr, .int .i64 m.sheets, .bool m.half] 50 (0, 0)))) | _ => False) ?reg ?cont
 case cont =>
  rintro e a' w3 hR
  cases e with
  | normal =>
    obtain ⟨m, O, q0, q1, q2, q3, q4, rfl, hm, hO, HB3, HK3, HM3⟩ := hR
    obtain ⟨-, -, a3i, a4i⟩ := fine_at HE.out (makes_ok hm)
    have hP : RowsAt 5 pprV w3.heap.size w3 (.slice a2 n2 cap2) p.pprs := by
     obtain ⟨fv, pv, e, -, h, -⟩ := HP.out.later HB3.out
     simp only [Value.agg.injEq, Array.mk.injEq, List.cons.injEq] at e
     rw [e.2.1]
     exact h
    obtain ⟨a', cap', e, hc⟩ := hP
    obtain ⟨q, hq⟩ : ∃ q, p.pprs[m.ppr.toNat]? = some q := ⟨_, List.getElem?_eq_getElem a4i⟩
    simp only [Value.slice.injEq] at e
    obtain ⟨rfl, hn2, rfl⟩ := e
    obtain ⟨bp, offp, rfl, hbp, hcc⟩ := hc (by intro h0; rw [h0] at a4i; exact absurd a4i (by simp))
    have j1 : m.ppr < (n2 : Int) := by rw [hn2]; omega
    have g0 : w3.cell? ⟨bp, offp + m.ppr.toNat * 5, none⟩ = some (S q.name) := hcc _ q hq 0 _ rfl
    have g1 := hcc _ q hq 1 _ rfl
    have g2 := hcc _ q hq 2 _ rfl
    have g3 := hcc _ q hq 3 _ rfl
    have g4 := hcc _ q hq 4 _ rfl
    clear hc hcc hn2
    have HQ := Lib.hid hq
    have HM := Lib.hid hm
    have HA4 := Lib.hid a4i
    have HBP := Lib.hid hbp
    have HOZ := Lib.hid hO
    have HZ4 := Lib.hid hZ4
    have HO := Lib.hid hO
    clear hq hm a4i hbp hO
    have Y1 := Lib.hid ((HK3.out _ (show w.heap.size < Z by omega)).trans X1.out)
    have Y2 := Lib.hid ((HK3.out _ (show w.heap.size + 1 < Z by omega)).trans X2.out)
    have Y3 := Lib.hid ((HK3.out _ (show w.heap.size + 2 < Z by omega)).trans X3.out)
    have Y4 := Lib.hid ((HK3.out _ (show w.heap.size + 3 < Z by omega)).trans X4.out)
    clear HK3 X1 X2 X3 X4 x1 x2 hb1 HB1 HZ
    have p0 := blk_cell Y1.out 0
    have p1 := blk_cell Y1.out 1
    have p2 := blk_cell Y1.out 2
    have p3 := blk_cell Y1.out 3
    have e0 := blk_cell Y2.out 0
    have e1 := blk_cell Y2.out 1
    have e2 := blk_cell Y2.out 2
    have e3 := blk_cell Y2.out 3
    have m0 := blk_cell HM3.out 0
    have m1 := blk_cell HM3.out 1
    have m2 := blk_cell HM3.out 2
    have m3 := blk_cell HM3.out 3
    go_wp2_with fail
    obtain ⟨w4, hw4⟩ : ∃ w4, w4 = w3.alloc (.cells #[S q.name, .int .i64 q.wlo, .int .i64 q.whi, .int .i64 q.hlo, .int .i64 q.hhi] 67) := ⟨_, rfl⟩
    have hb34 : Below w3.heap.size w3 w4 := by rw [hw4]; exact (Below.refl _ _).alloc (Nat.le_refl _) _
    have y5 : w4.heap[w3.heap.size]? = some (.cells #[S q.name, .int .i64 q.wlo, .int .i64 q.whi, .int .i64 q.hlo, .int .i64 q.hhi] 67 (0, 0)) := by rw [hw4]; exact World.alloc_heap_new _ _
    rw [<- hw4]
    generalize hG : w3.heap.size = G at y5 ⊢
    have Y1 := Lib.hid (blk_later hb34 Y1.out)
    have Y2 := Lib.hid (blk_later hb34 Y2.out)
    have Y3 := Lib.hid (blk_later hb34 Y3.out)
    have Y4 := Lib.hid (blk_later hb34 Y4.out)
    have HM3 := Lib.hid (blk_later hb34 HM3.out)
    have HB3 := Lib.hid (HB3.out.trans (hb34.mono HB3.out.size))
    have Y5 := Lib.hid y5
    clear hw4 hb34 y5 hG p0 p1 p2 p3 e0 e1 e2 e3 m0 m1 m2 m3 g0 g1 g2 g3 g4 j1 HBP HO
    have p0 := cell_regrown (blk_cell Y1.out 0)
    have p1 := cell_regrown (blk_cell Y1.out 1)
    have p2 := cell_regrown (blk_cell Y1.out 2)
    have p3 := cell_regrown (blk_cell Y1.out 3)
    have e0 := cell_regrown (blk_cell Y2.out 0)
    have e1 := cell_regrown (blk_cell Y2.out 1)
    have e2 := cell_regrown (blk_cell Y2.out 2)
    have e3 := cell_regrown (blk_cell Y2.out 3)
    have m0 := cell_regrown (blk_cell HM3.out 0)
    have m1 := cell_regrown (blk_cell HM3.out 1)
    have m2 := cell_regrown (blk_cell HM3.out 2)
    have m3 := cell_regrown (blk_cell HM3.out 3)
    have g0 := cell_regrown (blk_cell Y5.out 0)
    have g1 := cell_regrown (blk_cell Y5.out 1)
    have g2 := cell_regrown (blk_cell Y5.out 2)
    have g3 := cell_regrown (blk_cell Y5.out 3)
    have g4 := cell_regrown (blk_cell Y5.out 4)
    obtain ⟨fq0, fq1, fq2⟩ : (1 <= q.wlo /\ q.wlo <= q.whi /\ q.whi <= 2000) /\ (1 <= q.hlo /\ q.hlo <= q.hhi /\ q.hhi <= 2000) /\ (0 <= p.trim /\ p.trim <= 60) := by
     obtain ⟨ht, hq⟩ := fine_papers HE.out
     obtain ⟨k1, k2, k3, k4, k5, k6⟩ := hq q (List.mem_of_getElem? HQ.out)
     exact ⟨⟨k1.1, k5, k2.2⟩, ⟨k3.1, k6, k4.2⟩, ht⟩
    obtain ⟨X, hX⟩ : ∃ X : Nat, (X : Int) = amongI q.wlo q.whi (turnN sa 0) := ⟨(amongI q.wlo q.whi (turnN sa 0)).toNat, Int.toNat_of_nonneg (by have := among_in fq0.2.1 (turnN sa 0); omega)⟩
    obtain ⟨Y, hY⟩ : ∃ Y : Nat, (Y : Int) = amongI q.hlo q.hhi (turnN sa 1) := ⟨(amongI q.hlo q.hhi (turnN sa 1)).toNat, Int.toNat_of_nonneg (by have := among_in fq1.2.1 (turnN sa 1); omega)⟩
    have hX2 : X <= 2000 := by have := among_in fq0.2.1 (turnN sa 0); omega
    have hY2 : Y <= 2000 := by have := among_in fq1.2.1 (turnN sa 1); omega
    obtain ⟨f, hf⟩ : ∃ f, p.fmts[m.fmt.toNat]? = some f := ⟨_, List.getElem?_eq_getElem (fine_at HE.out (makes_ok HM.out)).2.1⟩
    obtain ⟨R1, hR1⟩ : ∃ R, R = (sizeN (lastF (fdsB f.folds)) (colsF (fdsB f.folds)) (rowsF (fdsB f.folds)) X Y).1 := ⟨_, rfl⟩
    obtain ⟨R2, hR2⟩ : ∃ R, R = (sizeN (lastF (fdsB f.folds)) (colsF (fdsB f.folds)) (rowsF (fdsB f.folds)) X Y).2 := ⟨_, rfl⟩
    have hRb : R1 <= 2000 /\ R2 <= 2000 := by
     have k1 := Nat.div_le_self X (colsF (fdsB f.folds))
     have k2 := Nat.div_le_self Y (rowsF (fdsB f.folds))
     rw [hR1, hR2]
     unfold sizeN
     split <;> (constructor <;> (show _ <= _) <;> dsimp only <;> omega)
    have cT0 : ∀ d os, Calls Tryz.prog 49 #[.slice a4 n4 cap4, .int .i64 0] (grow (redrawn w4 d) os) (fun e w'' => e = .returned (.int .i64 (turnN sa 0 : Int)) /\ ∃ p : Regrown, w'' = grow (redrawn w4 p.d) p.os) := fun d os => Calls.regrown_of ((turn_any sa _ 0 _ (H2.out.later (HB3.out.trans ((below_regrown w4 d os).mono HB3.out.size)))).mono fun e w'' ⟨h1, h2⟩ => ⟨h1, by rw [h2]; exact Below.refl _ _⟩)
    have cT1 : ∀ d os, Calls Tryz.prog 49 #[.slice a4 n4 cap4, .int .i64 1] (grow (redrawn w4 d) os) (fun e w'' => e = .returned (.int .i64 (turnN sa 1 : Int)) /\ ∃ p : Regrown, w'' = grow (redrawn w4 p.d) p.os) := fun d os => Calls.regrown_of ((turn_any sa _ 1 _ (H2.out.later (HB3.out.trans ((below_regrown w4 d os).mono HB3.out.size)))).mono fun e w'' ⟨h1, h2⟩ => ⟨h1, by rw [h2]; exact Below.refl _ _⟩)
    have cA : ∀ d os, Calls Tryz.prog 51 #[.agg #[.int .i64 q.wlo, .int .i64 q.whi], .int .i64 (turnN sa 0 : Int)] (grow (redrawn w4 d) os) (fun e w'' => e = .returned (.int .i64 (X : Int)) /\ ∃ p : Regrown, w'' = grow (redrawn w4 p.d) p.os) := fun d os => Calls.regrown_of (by rw [hX]; exact among_any _ _ _ _ (by omega) fq0.2.1 fq0.2.2)
    have cB : ∀ d os, Calls Tryz.prog 51 #[.agg #[.int .i64 q.hlo, .int .i64 q.hhi], .int .i64 (turnN sa 1 : Int)] (grow (redrawn w4 d) os) (fun e w'' => e = .returned (.int .i64 (Y : Int)) /\ ∃ p : Regrown, w'' = grow (redrawn w4 p.d) p.os) := fun d os => Calls.regrown_of (by rw [hY]; exact among_any _ _ _ _ (by omega) fq1.2.1 fq1.2.2)
    have cS : ∀ d os, Calls Tryz.prog 50 #[.agg #[.slice a n1 cap, .slice (some ⟨bp, offp, none⟩) n2 cap2, .int .i64 p.trim, .int .i64 p.sheets], mkwV m, .int .i64 (X : Int), .int .i64 (Y : Int)] (grow (redrawn w4 d) os) (fun e w'' => e = .returned (.tuple #[.int .i64 (R1 : Int), .int .i64 (R2 : Int)]) /\ ∃ p : Regrown, w'' = grow (redrawn w4 p.d) p.os) := fun d os => Calls.regrown_of (by rw [hR1, hR2]; exact refSize_any p m f X Y _ _ (HP.out.later (HB3.out.trans ((below_regrown w4 d os).mono HB3.out.size))) HE.out (makes_ok HM.out) hf hX2 hY2)
    have HX := Lib.hid (And.intro hX hX2)
    have HY := Lib.hid (And.intro hY hY2)
    have HFQ := Lib.hid (And.intro fq0 (And.intro fq1 fq2))
    have HF := Lib.hid hf
    have HR := Lib.hid (And.intro hR1 hR2)
    have HRB := Lib.hid hRb
    clear hX hX2 hY hY2 fq0 fq1 fq2 hf hR1 hR2 hRb a3i
    refine wp_region_quiet_below (by kernel_rfl) (by kernel_rfl) ?_; (repeat (go_big_quiet_step (first | with_reducible exact cT0 _ _ | with_reducible exact cT1 _ _ | with_reducible exact cA _ _ | with_reducible exact cB _ _ | with_reducible exact cS _ _))); refine wpQuiet_nil ?_; rintro w6 ⟨⟨d6, os6⟩, rfl⟩
    clear cT0 cT1 cA cB cS
    obtain ⟨w5, hv⟩ : ∃ v, v = grow (redrawn w4 d6) os6 := ⟨_, rfl⟩
    have hbv : Below (w4).heap.size w4 w5 := by rw [hv]; exact below_regrown w4 d6 os6
    rw [<- hv]
    have Y1 := Lib.hid (blk_later hbv Y1.out)
    have Y2 := Lib.hid (blk_later hbv Y2.out)
    have Y3 := Lib.hid (blk_later hbv Y3.out)
    have Y4 := Lib.hid (blk_later hbv Y4.out)
    have Y5 := Lib.hid (blk_later hbv Y5.out)
    have HM3 := Lib.hid (blk_later hbv HM3.out)
    have HB3 := Lib.hid (HB3.out.trans (hbv.mono HB3.out.size))
    clear hv hbv p0 p1 p2 p3 e0 e1 e2 e3 m0 m1 m2 m3 g0 g1 g2 g3 g4
    have p0 := cell_regrown (blk_cell Y1.out 0)
    have p1 := cell_regrown (blk_cell Y1.out 1)
    have p2 := cell_regrown (blk_cell Y1.out 2)
    have p3 := cell_regrown (blk_cell Y1.out 3)
    have e0 := cell_regrown (blk_cell Y2.out 0)
    have e1 := cell_regrown (blk_cell Y2.out 1)
    have e2 := cell_regrown (blk_cell Y2.out 2)
    have e3 := cell_regrown (blk_cell Y2.out 3)
    have m0 := cell_regrown (blk_cell HM3.out 0)
    have m1 := cell_regrown (blk_cell HM3.out 1)
    have m2 := cell_regrown (blk_cell HM3.out 2)
    have m3 := cell_regrown (blk_cell HM3.out 3)
    have g0 := cell_regrown (blk_cell Y5.out 0)
    have g1 := cell_regrown (blk_cell Y5.out 1)
    have g2 := cell_regrown (blk_cell Y5.out 2)
    have g3 := cell_regrown (blk_cell Y5.out 3)
    have g4 := cell_regrown (blk_cell Y5.out 4)
    obtain ⟨t2, ht2⟩ : ∃ t, t = turnN sa 2 := ⟨_, rfl⟩
    have HT2 := Lib.hid ht2
    have ht2b : t2 < 65536 := by rw [ht2]; exact turnN_lt H2.out 2
    obtain ⟨r2, hr2⟩ : ∃ r, r = (t2 : Int) % (p.trim + 1) := ⟨_, rfl⟩
    have r2a : 0 <= r2 := by rw [hr2]; exact Int.emod_nonneg _ (by have := HFQ.out; omega)
    have r2b : r2 <= 60 := by have h := Int.emod_lt_of_pos (t2 : Int) (show 0 < p.trim + 1 by have := HFQ.out; omega); have := HFQ.out; omega
    have hr2' : (t2 : Int) % (p.trim + 1) = r2 := hr2.symm
    have HR2 := Lib.hid hr2
    have tr0 : 0 <= p.trim := HFQ.out.2.2.1
    have tr1 : p.trim <= 60 := HFQ.out.2.2.2
    have hne : (p.trim + 1 == 0) = false := by simp; omega
    have hne2 : ¬ p.trim + 1 = 0 := by omega
    have rb1 : R1 <= 2000 := HRB.out.1
    have rb2 : R2 <= 2000 := HRB.out.2
    have cT2 : ∀ d os, Calls Tryz.prog 49 #[.slice a4 n4 cap4, .int .i64 2] (grow (redrawn w5 d) os) (fun e w'' => e = .returned (.int .i64 (t2 : Int)) /\ ∃ p : Regrown, w'' = grow (redrawn w5 p.d) p.os) := fun d os => Calls.regrown_of ((turn_any sa _ 2 _ (H2.out.later (HB3.out.trans ((below_regrown w5 d os).mono HB3.out.size)))).mono fun e w'' ⟨h1, h2⟩ => ⟨by rw [HT2.out]; exact h1, by rw [h2]; exact Below.refl _ _⟩)
    clear ht2 hr2
    go_wp2_with fail
    refine wp_region_quiet_below (by kernel_rfl) (by kernel_rfl) ?_; (repeat (go_big_quiet_step (with_reducible exact cT2 _ _))); refine wpQuiet_nil ?_; rintro w6 ⟨⟨d6, os6⟩, rfl⟩
    clear cT2
    obtain ⟨w7, hv⟩ : ∃ v, v = grow (redrawn w5 d6) os6 := ⟨_, rfl⟩
    have hbv : Below (w5).heap.size w5 w7 := by rw [hv]; exact below_regrown w5 d6 os6
    rw [<- hv]
    have Y1 := Lib.hid (blk_later hbv Y1.out)
    have Y2 := Lib.hid (blk_later hbv Y2.out)
    have Y3 := Lib.hid (blk_later hbv Y3.out)
    have Y4 := Lib.hid (blk_later hbv Y4.out)
    have Y5 := Lib.hid (blk_later hbv Y5.out)
    have HM3 := Lib.hid (blk_later hbv HM3.out)
    have HB3 := Lib.hid (HB3.out.trans (hbv.mono HB3.out.size))
    clear hv hbv p0 p1 p2 p3 e0 e1 e2 e3 m0 m1 m2 m3 g0 g1 g2 g3 g4
    have p0 := cell_regrown (blk_cell Y1.out 0)
    have p1 := cell_regrown (blk_cell Y1.out 1)
    have p2 := cell_regrown (blk_cell Y1.out 2)
    have p3 := cell_regrown (blk_cell Y1.out 3)
    have e0 := cell_regrown (blk_cell Y2.out 0)
    have e1 := cell_regrown (blk_cell Y2.out 1)
    have e2 := cell_regrown (blk_cell Y2.out 2)
    have e3 := cell_regrown (blk_cell Y2.out 3)
    have m0 := cell_regrown (blk_cell HM3.out 0)
    have m1 := cell_regrown (blk_cell HM3.out 1)
    have m2 := cell_regrown (blk_cell HM3.out 2)
    have m3 := cell_regrown (blk_cell HM3.out 3)
    have g0 := cell_regrown (blk_cell Y5.out 0)
    have g1 := cell_regrown (blk_cell Y5.out 1)
    have g2 := cell_regrown (blk_cell Y5.out 2)
    have g3 := cell_regrown (blk_cell Y5.out 3)
    have g4 := cell_regrown (blk_cell Y5.out 4)
    obtain ⟨tw, htw⟩ : ∃ z, z = maxI 0 ((R1 : Int) - r2) := ⟨_, rfl⟩
    have htw1 : 0 <= tw /\ tw <= 2000 := by rw [htw, maxI_is]; omega
    have HTW := Lib.hid htw
    rw [<- htw]
    clear htw
    obtain ⟨t3, ht3⟩ : ∃ t, t = turnN sa 3 := ⟨_, rfl⟩
    have HT3 := Lib.hid ht3
    have ht3b : t3 < 65536 := by rw [ht3]; exact turnN_lt H2.out 3
    obtain ⟨r3, hr3⟩ : ∃ r, r = (t3 : Int) % (2 * p.trim + 1) := ⟨_, rfl⟩
    have r3a : 0 <= r3 := by rw [hr3]; exact Int.emod_nonneg _ (by omega)
    have r3b : r3 <= 120 := by have h := Int.emod_lt_of_pos (t3 : Int) (show 0 < 2 * p.trim + 1 by omega); omega
    have hr3' : (t3 : Int) % (2 * p.trim + 1) = r3 := hr3.symm
    have HR3 := Lib.hid hr3
    have hne3 : (2 * p.trim + 1 == 0) = false := by simp; omega
    have hne4 : ¬ 2 * p.trim + 1 = 0 := by omega
    have cT3 : ∀ d os, Calls Tryz.prog 49 #[.slice a4 n4 cap4, .int .i64 3] (grow (redrawn w7 d) os) (fun e w'' => e = .returned (.int .i64 (t3 : Int)) /\ ∃ p : Regrown, w'' = grow (redrawn w7 p.d) p.os) := fun d os => Calls.regrown_of ((turn_any sa _ 3 _ (H2.out.later (HB3.out.trans ((below_regrown w7 d os).mono HB3.out.size)))).mono fun e w'' ⟨h1, h2⟩ => ⟨by rw [HT3.out]; exact h1, by rw [h2]; exact Below.refl _ _⟩)
    clear ht3 hr3 hne hne2 hr2' ht2b r2a r2b
    go_wp2_with fail
    refine wp_region_quiet_below (by kernel_rfl) (by kernel_rfl) ?_; (repeat (go_big_quiet_step (with_reducible exact cT3 _ _))); refine wpQuiet_nil ?_; rintro w6 ⟨⟨d6, os6⟩, rfl⟩
    clear cT3 hr3' hne3 hne4
    obtain ⟨w8, hv⟩ : ∃ v, v = grow (redrawn w7 d6) os6 := ⟨_, rfl⟩
    have hbv : Below (w7).heap.size w7 w8 := by rw [hv]; exact below_regrown w7 d6 os6
    rw [<- hv]
    have Y1 := Lib.hid (blk_later hbv Y1.out)
    have Y2 := Lib.hid (blk_later hbv Y2.out)
    have Y3 := Lib.hid (blk_later hbv Y3.out)
    have Y4 := Lib.hid (blk_later hbv Y4.out)
    have Y5 := Lib.hid (blk_later hbv Y5.out)
    have HM3 := Lib.hid (blk_later hbv HM3.out)
    have HB3 := Lib.hid (HB3.out.trans (hbv.mono HB3.out.size))
    clear hv hbv p0 p1 p2 p3 e0 e1 e2 e3 m0 m1 m2 m3 g0 g1 g2 g3 g4
    have p0 := blk_cell Y1.out 0
    have p1 := blk_cell Y1.out 1
    have p2 := blk_cell Y1.out 2
    have p3 := blk_cell Y1.out 3
    have e0 := blk_cell Y2.out 0
    have e1 := blk_cell Y2.out 1
    have e2 := blk_cell Y2.out 2
    have e3 := blk_cell Y2.out 3
    have m0 := blk_cell HM3.out 0
    have m1 := blk_cell HM3.out 1
    have m2 := blk_cell HM3.out 2
    have m3 := blk_cell HM3.out 3
    have g0 := blk_cell Y5.out 0
    have g1 := blk_cell Y5.out 1
    have g2 := blk_cell Y5.out 2
    have g3 := blk_cell Y5.out 3
    have g4 := blk_cell Y5.out 4
    obtain ⟨th, hth⟩ : ∃ z, z = maxI 0 ((R2 : Int) - r3) := ⟨_, rfl⟩
    have hth1 : 0 <= th /\ th <= 2000 := by rw [hth, maxI_is]; omega
    have HTH := Lib.hid hth
    rw [<- hth]
    clear hth ht3b r3a r3b
    go_wp2_with fail
    refine (refAll2_any p m f _ w8 (HP.out.later HB3.out) HE.out (makes_ok HM.out) HF.out).mono ?_
    rintro e w9 ⟨⟨v', g, rfl, hlv, hg8⟩, hb9⟩
    obtain ⟨NL, hNL⟩ : ∃ n, n = (leavesW m f).length := ⟨_, rfl⟩
    have hNL2 : 1 <= NL /\ NL <= 64 := by
     have h := told_num HE.out (makes_ok HM.out)
     have h2 : (lvOf p m).length = (leavesW m f).length := by unfold lvOf leavesW fldsOf; rw [HF.out]
     rw [hNL, <- h2]; exact h
    have HLV := Lib.hid hlv
    have HNL := Lib.hid hNL
    obtain ⟨kk, cur, hl1, hl2, hl3⟩ := hlv
    have Y1 := Lib.hid (blk_later hb9 Y1.out)
    have Y2 := Lib.hid (blk_later hb9 Y2.out)
    have Y3 := Lib.hid (blk_later hb9 Y3.out)
    have Y4 := Lib.hid (blk_later hb9 Y4.out)
    have Y5 := Lib.hid (blk_later hb9 Y5.out)
    have HM3 := Lib.hid (blk_later hb9 HM3.out)
    have HB3 := Lib.hid (HB3.out.trans (hb9.mono HB3.out.size))
    clear hb9 p0 p1 p2 p3 e0 e1 e2 e3 m0 m1 m2 m3 g0 g1 g2 g3 g4
    subst hl1
    generalize hG9 : w9.heap.size = Z9
    have HZ9 := Lib.hid hG9
    clear hG9
    obtain ⟨u0, hu0⟩ : ∃ t, t = turnN la 0 := ⟨_, rfl⟩
    obtain ⟨u1, hu1⟩ : ∃ t, t = turnN la 1 := ⟨_, rfl⟩
    obtain ⟨u2, hu2⟩ : ∃ t, t = turnN la 2 := ⟨_, rfl⟩
    obtain ⟨u3, hu3⟩ : ∃ t, t = turnN la 3 := ⟨_, rfl⟩
    have hub : (u0 < 65536 /\ u1 < 65536) /\ u2 < 65536 /\ u3 < 65536 := by rw [hu0, hu1, hu2, hu3]; exact ⟨⟨turnN_lt H4.out 0, turnN_lt H4.out 1⟩, turnN_lt H4.out 2, turnN_lt H4.out 3⟩
    have HU := Lib.hid (And.intro (And.intro hu0 hu1) (And.intro hu2 hu3))
    clear hu0 hu1 hu2 hu3
    go_wp2_with fail
    refine wp_cut (fun e a' w' => match e with | .normal => (∃ (B : Nat), a' = ⟨#[(.agg #[.slice a n1 cap, .slice (some ⟨bp, offp, none⟩) n2 cap2, .int .i64 p.trim, .int .i64 p.sheets]), (.agg #[.slice a3 n3 cap3, .slice a4 n4 cap4, .slice a5 n5 cap5, .slice a6 n6 cap6]), (.int .u8 (bits : Int)), (.pointer (some ⟨w.heap.size, 0, none⟩)), (.pointer (some ⟨w.heap.size + 1, 0, none⟩)), undef, (.pointer (some ⟨w.heap.size + 1 + 1, 0, none⟩)), (.pointer (some ⟨w.heap.size + 1 + 1 + 1, 0, none⟩)), (.pointer (some ⟨O, 0, none⟩)), (.pointer (some ⟨G, 0, none⟩)), (.int .i64 tw), (.int .i64 th), (.slice (some ⟨g, 0, none⟩) (leavesW m f).length ((leavesW m f).length + kk)), (.pointer (some ⟨B, 0, none⟩)), undef, undef, undef, slotA a' 17, slotA a' 18, slotA a' 19, slotA a' 20, slotA a' 21, slotA a' 22, slotA a' 23, slotA a' 24, slotA a' 25, slotA a' 26, slotA a' 27, slotA a' 28, slotA a' 29, slotA a' 30, slotA a' 31, slotA a' 32, slotA a' 33, slotA a' 34, slotA a' 35, slotA a' 36, slotA a' 37, slotA a' 38, slotA a' 39, slotA a' 40, slotA a' 41, slotA a' 42, slotA a' 43, slotA a' 44, slotA a' 45, slotA a' 46, slotA a' 47, slotA a' 48, slotA a' 49, slotA a' 50, slotA a' 51, slotA a' 52, slotA a' 53, slotA a' 54, slotA a' 55, slotA a' 56, slotA a' 57, slotA a' 58, slotA a' 59, slotA a' 60, slotA a' 61, slotA a' 62, slotA a' 63, slotA a' 64, slotA a' 65, slotA a' 66, slotA a' 67, slotA a' 68, slotA a' 69, slotA a' 70, slotA a' 71, slotA a' 72, slotA a' 73, slotA a' 74, slotA a' 75, slotA a' 76, slotA a' 77, slotA a' 78, slotA a' 79, slotA a' 80, slotA a' 81, slotA a' 82, slotA a' 83, slotA a' 84, slotA a' 85, slotA a' 86, slotA a' 87, slotA a' 88, slotA a' 89, slotA a' 90, slotA a' 91, slotA a' 92, slotA a' 93, slotA a' 94, slotA a' 95, slotA a' 96, slotA a' 97, slotA a' 98, slotA a' 99, slotA a' 100, slotA a' 101, slotA a' 102, undef, undef, undef, undef, undef, undef, undef, undef, undef, undef, undef, undef, undef, undef, undef, undef, undef, undef, undef, undef, undef, undef, undef, undef, undef, undef, undef, undef, undef, undef, undef, undef, undef, undef, undef, undef, undef, undef, undef, undef, undef, undef, undef, undef, undef, undef, undef, undef, undef, undef, undef, undef, undef, undef, undef, undef, undef], []⟩ /\ Z9 <= B /\ Hid (Below Z9 w9 w') /\ Hid (w'.heap[B]? = some (.cells #[.int .i64 (leavesW m f).length, .int .i64 0, .int .i64 (maxI 0 (IntKind.i64.wrap (tw - (u0 : Int).tmod 9))), .int .i64 (minI 2000 (IntKind.i64.wrap (tw + (u1 : Int).tmod 9))), .int .i64 (maxI 0 (IntKind.i64.wrap (th - (u2 : Int).tmod 9))), .int .i64 (minI 2000 (IntKind.i64.wrap (th + (u3 : Int).tmod 9))), .slice none 0 0] 30 (0, 0)))) | _ => False) ?reg7 ?cont7
    case cont7 =>
     rintro e a' w10 hR
     cases e with
     | normal =>
       obtain ⟨B, ha9, hOB, HB7, HC7⟩ := hR
       generalize slotA a' = sl at ha9
       subst ha9
       have HOB := Lib.hid hOB
       have V1 := Lib.hid Y1.out
       have V2 := Lib.hid Y2.out
       have V3 := Lib.hid Y3.out
       have V4 := Lib.hid Y4.out
       have VM := Lib.hid HM3.out
       have VB := Lib.hid HB3.out
       clear Y3 Y4 Y5
       have hb7 : Below w9.heap.size w9 w10 := by rw [HZ9.out]; exact HB7.out
       have Y1 := Lib.hid (blk_later hb7 Y1.out)
       have Y2 := Lib.hid (blk_later hb7 Y2.out)
       have HM3 := Lib.hid (blk_later hb7 HM3.out)
       have HB3 := Lib.hid (HB3.out.trans (hb7.mono HB3.out.size))
       have hlvb : w.heap.size + 2 <= Z9 := by have h := blk_lt Y2.out; have h2 := HZ9.out; have h3 := blk_lt V3.out; have h4 := HB7.out.size; omega
       have HLVB := Lib.hid hlvb
       clear hOB hb7 hlvb
       obtain ⟨b1, hb1⟩ : ∃ z, z = maxI 0 (IntKind.i64.wrap (tw - (u0 : Int).tmod 9)) := ⟨_, rfl⟩
       obtain ⟨b2, hb2⟩ : ∃ z, z = minI 2000 (IntKind.i64.wrap (tw + (u1 : Int).tmod 9)) := ⟨_, rfl⟩
       obtain ⟨b3, hb3⟩ : ∃ z, z = maxI 0 (IntKind.i64.wrap (th - (u2 : Int).tmod 9)) := ⟨_, rfl⟩
       obtain ⟨b4, hb4⟩ : ∃ z, z = minI 2000 (IntKind.i64.wrap (th + (u3 : Int).tmod 9)) := ⟨_, rfl⟩
       rw [<- hb1, <- hb2, <- hb3, <- hb4, <- HNL.out] at HC7
       rw [<- HNL.out]
       clear hNL
       have HBB := Lib.hid (And.intro (And.intro hb1 hb2) (And.intro hb3 hb4))
       have HTB := Lib.hid (And.intro htw1 hth1)
       clear hb1 hb2 hb3 hb4 htw1 hth1
       obtain ⟨i0, i1, -, -⟩ := fine_at HE.out (makes_ok HM.out)
       have hP : RowsAt 2 fmtV w10.heap.size w10 (.slice a n1 cap) p.fmts := by
        obtain ⟨fv, pv, e, h, -⟩ := HP.out.later HB3.out
        simp only [Value.agg.injEq, Array.mk.injEq, List.cons.injEq] at e
        rw [e.1]
        exact h
       obtain ⟨af, capf, e, hc⟩ := hP
       simp only [Value.slice.injEq] at e
       obtain ⟨e1, hn1, -⟩ := e
       obtain ⟨fb, foff, e2, hfb, hcc⟩ := hc (by intro h0; rw [h0] at i1; exact absurd i1 (by simp))
       rw [e2] at e1
       subst e1
       have qf : w10.cell? ⟨fb, foff + m.fmt.toNat * 2 + 1, none⟩ = some (S f.folds) := hcc _ f HF.out 1 _ rfl
       have j1 : m.fmt < (n1 : Int) := by rw [hn1]; omega
       clear hc hcc hn1 e2 hfb i1
       have p0 := blk_cell Y1.out 0
       have m0 := blk_cell HM3.out 0
       have e3 := blk_cell Y2.out 3
       go_wp2_with fail
       rename_i K2 hK2 K1 hK1 K0 hK0
       obtain ⟨u4, hu4⟩ : ∃ u, u = turnN la 4 := ⟨_, rfl⟩
       obtain ⟨t4, ht4⟩ : ∃ u, u = u4 % 3 := ⟨_, rfl⟩
       have hm4 : (u4 : Int).tmod 3 = (t4 : Int) := by rw [ht4, Int.tmod_eq_emod_of_nonneg (by omega)]; omega
       have HU4 := Lib.hid (And.intro hu4 ht4)
       obtain ⟨up, hup⟩ : ∃ u, u = lastF (fdsB f.folds) := ⟨_, rfl⟩
       have HUP := Lib.hid hup
       have J : ∀ (a' : Act) (ch : Int) (W : World), a' = ⟨#[.agg #[.slice (some ⟨fb, foff, none⟩) n1 cap, .slice (some ⟨bp, offp, none⟩) n2 cap2, .int .i64 p.trim, .int .i64 p.sheets], .agg #[.slice a3 n3 cap3, .slice a4 n4 cap4, .slice a5 n5 cap5, .slice a6 n6 cap6], .int .u8 (bits : Int), .pointer (some ⟨w.heap.size, 0, none⟩), .pointer (some ⟨w.heap.size + 1, 0, none⟩), undef, .pointer (some ⟨w.heap.size + 1 + 1, 0, none⟩), .pointer (some ⟨w.heap.size + 1 + 1 + 1, 0, none⟩), .pointer (some ⟨O, 0, none⟩), .pointer (some ⟨G, 0, none⟩), .int .i64 tw, .int .i64 th, .slice (some ⟨g, 0, none⟩) NL (NL + kk), .pointer (some ⟨B, 0, none⟩), S f.folds, undef, undef, sl 17, sl 18, sl 19, sl 20, sl 21, sl 22, sl 23, sl 24, sl 25, sl 26, sl 27, sl 28, sl 29, sl 30, sl 31, sl 32, sl 33, sl 34, sl 35, sl 36, sl 37, sl 38, sl 39, sl 40, sl 41, sl 42, sl 43, sl 44, sl 45, sl 46, sl 47, sl 48, sl 49, sl 50, sl 51, sl 52, sl 53, sl 54, sl 55, sl 56, sl 57, sl 58, sl 59, sl 60, sl 61, sl 62, sl 63, sl 64, sl 65, sl 66, sl 67, sl 68, sl 69, sl 70, sl 71, sl 72, sl 73, sl 74, sl 75, sl 76, sl 77, sl 78, sl 79, sl 80, sl 81, sl 82, sl 83, sl 84, sl 85, sl 86, sl 87, sl 88, sl 89, sl 90, sl 91, sl 92, sl 93, sl 94, sl 95, sl 96, sl 97, sl 98, sl 99, sl 100, sl 101, sl 102, slotA a' 103, slotA a' 104, slotA a' 105, slotA a' 106, slotA a' 107, slotA a' 108, slotA a' 109, slotA a' 110, slotA a' 111, slotA a' 112, slotA a' 113, slotA a' 114, slotA a' 115, slotA a' 116, slotA a' 117, slotA a' 118, slotA a' 119, slotA a' 120, slotA a' 121, slotA a' 122, undef, undef, undef, undef, undef, undef, undef, undef, undef, undef, undef, undef, undef, undef, undef, undef, undef, undef, undef, undef, undef, undef, undef, undef, undef, undef, undef, undef, undef, undef, undef, undef, undef, undef, undef, undef, undef], []⟩ -> ch = (if 0 < t4 then (if up then 1 else 2) else 0) -> Below Z9 w9 W -> W.heap[B]? = some (.cells #[.int .i64 NL, .int .i64 ch, .int .i64 b1, .int .i64 b2, .int .i64 b3, .int .i64 b4, .slice none 0 0] 30 (0, 0)) -> K2 a' W := by
        intro a' ch W ha' hch hbW hcW
        generalize slotA a' = r at ha'
        subst ha'
        refine hK2 _ _ ?_
        go_wp2_with fail
        have hbw9 : Below w9.heap.size w9 W := by rw [HZ9.out]; exact hbW
        have hzw : B < W.heap.size := blk_lt hcW
        have hzo : O < Z9 := by have := blk_lt VM.out; have := HZ9.out; omega
        have Y1 := Lib.hid (blk_later hbw9 V1.out)
        have Y2 := Lib.hid (blk_later hbw9 V2.out)
        have HM3 := Lib.hid (blk_later hbw9 VM.out)
        have hBW : Below w.heap.size w W := VB.out.trans (hbw9.mono VB.out.size)
        have HS0 : Hid (TdSt W W B NL ch b1 b2 b3 b4 (.slice none 0 0) []) := Lib.hid ⟨OnlyIn.refl _ _, hcW, World.ownsRow_nil _ _ _ _, hzw⟩
        have HBW := Lib.hid hBW
        have HCH := Lib.hid hch
        have HZO := Lib.hid hzo
        have HW9 := Lib.hid hbw9
        obtain ⟨u5, hu5⟩ : ∃ u, u = turnN la 5 := ⟨_, rfl⟩
        obtain ⟨N, hN⟩ : ∃ u, u = u5 % 9 := ⟨_, rfl⟩
        have hm5 : (u5 : Int).tmod 9 = (N : Int) := by rw [hN, Int.tmod_eq_emod_of_nonneg (by omega)]; omega
        have hN8 : N <= 8 := by omega
        have HU5 := Lib.hid (And.intro hu5 hN)
        clear hbw9 hBW hcW hbW hch hu5 hN hm4 p0 m0 e3 qf j1 i0 hub hzo
        go_loopw [15] (fun j wr => ∃ (k : Nat) (v : Value), k <= N /\ j = .int .i64 k /\ Hid (TdSt W wr B NL ch b1 b2 b3 b4 v ((List.range k).map (tellI p m ha la bits)))) (fun j _ => N - (intOf j).toNat)
        case atStart => exact ⟨0, .slice none 0 0, by omega, rfl, HS0⟩
        case round =>
         clear HS0
         obtain ⟨k, v, hk, rfl, HS⟩ := hrel
         have g2 := HS.out.blk (by have := HLVB.out; have := HOB.out; omega) (by have := HLVB.out; have := HOB.out; omega) Y2.out
         have e3 := blk_cell g2 3
         have G2 := Lib.hid g2
         have HBR := Lib.hid (HS.out.below HBW.out (by have := HLVB.out; have := HOB.out; omega))
         clear g2
         go_wp2_with fail
         refine (turn_any la _ 5 _ (H4.out.later HBR.out)).mono ?_
         rintro e wx ⟨rfl, rfl⟩
         rw [<- HU5.out.1]
         by_cases hlt : k < N
         · go_wp2_with fail
           have e6 : ((6 + k : Nat) : Int) = 6 + (k : Int) := by omega
           have hT := turn_any la (.slice a6 n6 cap6) (6 + k) wx (H4.out.later HBR.out)
           rw [e6] at hT
           refine hT.mono ?_
           rintro e wy ⟨rfl, rfl⟩
           clear hT e6
           obtain ⟨u6, hu6⟩ : ∃ u, u = turnN la (6 + k) := ⟨_, rfl⟩
           rw [<- hu6]
           obtain ⟨jj, hjj⟩ : ∃ j, j = u6 % NL := ⟨_, rfl⟩
           have hm6 : (u6 : Int).tmod (NL : Int) = (jj : Int) := by rw [hjj, Int.tmod_eq_emod_of_nonneg (by omega)]; exact (Int.natCast_emod u6 NL).symm
           have hnz : ((NL : Int) == 0) = false := by simp; omega
           have hnz2 : ¬ (NL : Int) = 0 := by omega
           have hjl : jj < NL := by rw [hjj]; exact Nat.mod_lt _ (by omega)
           obtain ⟨x, hx⟩ : ∃ x, (leavesW m f)[jj]? = some x := ⟨_, List.getElem?_eq_getElem (by rw [<- HNL.out]; exact hjl)⟩
           have HX := Lib.hid hx
           have HJ := Lib.hid (And.intro hu6 hjj)
           clear hu6 hjj hx
           go_wp2_with fail
           clear hm6 hnz hnz2 e3
           have HT : Hid (TdSt W wy.drew B NL ch b1 b2 b3 b4 v ((List.range k).map (tellI p m ha la bits))) := Lib.hid (HS.out.later (Below.drew (Below.refl _ _)))
           have hp1 : w.heap.size < W.heap.size := by have := HLVB.out; have := HOB.out; omega
           have hp1' : w.heap.size ≠ B := by have := HLVB.out; have := HOB.out; omega
           have hp2 : w.heap.size + 1 < W.heap.size := by have := HLVB.out; have := HOB.out; omega
           have hp2' : w.heap.size + 1 ≠ B := by have := HLVB.out; have := HOB.out; omega
           have hp3 : O < W.heap.size := by have := HZO.out; have := HOB.out; omega
           have hp3' : O ≠ B := by have := HZO.out; have := HOB.out; omega
           have HSS : Hid (∀ u : World, (∀ k, k < W.heap.size -> k ≠ B -> u.heap[k]? = W.heap[k]?) -> u.cell? ⟨w.heap.size, 0, none⟩ = some (.slice (some ⟨fb, foff, none⟩) n1 cap) /\ u.cell? ⟨w.heap.size, 1, none⟩ = some (.slice (some ⟨bp, offp, none⟩) n2 cap2) /\ u.cell? ⟨w.heap.size, 2, none⟩ = some (.int .i64 p.trim) /\ u.cell? ⟨w.heap.size, 3, none⟩ = some (.int .i64 p.sheets) /\ u.cell? ⟨w.heap.size + 1, 2, none⟩ = some (.slice a5 n5 cap5) /\ u.cell? ⟨O, 0, none⟩ = some (.int .i64 m.fmt) /\ u.cell? ⟨O, 1, none⟩ = some (.int .i64 m.ppr) /\ u.cell? ⟨O, 2, none⟩ = some (.int .i64 m.sheets) /\ u.cell? ⟨O, 3, none⟩ = some (.bool m.half)) := Lib.hid (fun u h => ⟨(World.cell?_of_block (h _ hp1 hp1')).trans (blk_cell Y1.out 0), (World.cell?_of_block (h _ hp1 hp1')).trans (blk_cell Y1.out 1), (World.cell?_of_block (h _ hp1 hp1')).trans (blk_cell Y1.out 2), (World.cell?_of_block (h _ hp1 hp1')).trans (blk_cell Y1.out 3), (World.cell?_of_block (h _ hp2 hp2')).trans (blk_cell Y2.out 2), (World.cell?_of_block (h _ hp3 hp3')).trans (blk_cell HM3.out 0), (World.cell?_of_block (h _ hp3 hp3')).trans (blk_cell HM3.out 1), (World.cell?_of_block (h _ hp3 hp3')).trans (blk_cell HM3.out 2), (World.cell?_of_block (h _ hp3 hp3')).trans (blk_cell HM3.out 3)⟩)
           clear hp1 hp1' hp2 hp2' hp3 hp3'
           obtain ⟨bt, hbt⟩ : ∃ b, b = bits.testBit k := ⟨_, rfl⟩
           have hbit : (((bits : Int) / 2 ^ k).tmod 2 == 1) = bt := by
            have e1 : ((bits : Int) / 2 ^ k) = ((bits / 2 ^ k : Nat) : Int) := by rw [Int.natCast_ediv, Int.natCast_pow]; rfl
            have e2 : (((bits / 2 ^ k : Nat) : Int)).tmod 2 = ((bits / 2 ^ k % 2 : Nat) : Int) := by rw [Int.tmod_eq_emod_of_nonneg (Int.natCast_nonneg _)]; exact (Int.natCast_emod _ 2).symm
            rw [e1, e2, hbt, Nat.testBit_eq_decide_div_mod_eq]
            rcases (show bits / 2 ^ k % 2 = 0 ∨ bits / 2 ^ k % 2 = 1 by omega) with h | h <;> rw [h] <;> rfl
           have HBT := Lib.hid hbt
           clear hbt
           obtain ⟨ei, hi1, hi2, hi3, hi4⟩ := elemMrk
           have HI := Lib.hid (And.intro hi1 (And.intro hi2 (And.intro hi3 hi4)))
           clear hi1 hi2 hi3 hi4
           refine wp_region_held_drew (S := fun u => u.cell? ⟨w.heap.size, 0, none⟩ = some (.slice (some ⟨fb, foff, none⟩) n1 cap) /\ u.cell? ⟨w.heap.size, 1, none⟩ = some (.slice (some ⟨bp, offp, none⟩) n2 cap2) /\ u.cell? ⟨w.heap.size, 2, none⟩ = some (.int .i64 p.trim) /\ u.cell? ⟨w.heap.size, 3, none⟩ = some (.int .i64 p.sheets) /\ u.cell? ⟨w.heap.size + 1, 2, none⟩ = some (.slice a5 n5 cap5) /\ u.cell? ⟨O, 0, none⟩ = some (.int .i64 m.fmt) /\ u.cell? ⟨O, 1, none⟩ = some (.int .i64 m.ppr) /\ u.cell? ⟨O, 2, none⟩ = some (.int .i64 m.sheets) /\ u.cell? ⟨O, 3, none⟩ = some (.bool m.half)) (by kernel_rfl) (HSS.out _ fun k h1 h2 => HT.out.only.block k h1 h2) (fun hHeld => ?_)
           refine wpAnyH_take (i := 0) (v := ?_) rfl (by kernel_rfl) (by kernel_rfl) (by kernel_rfl) (fun _ _ _ h => h) (Or.inl ⟨by rfl, ?_⟩) (by assumption) ?_
           rotate_left
           · (intro w hSw; (try dsimp only at hSw); (try simp only [List.getElem_toArray, List.getElem_cons_zero, List.getElem_cons_succ]); go_simp; (try with_reducible rfl))
           (try simp only [List.getElem_toArray, List.getElem_cons_zero, List.getElem_cons_succ, Act.put, List.setIfInBounds_toArray, List.set_cons_zero, List.set_cons_succ])
           refine wpAnyH_take (i := 2) (v := ?_) rfl (by kernel_rfl) (by kernel_rfl) (by kernel_rfl) (fun _ _ _ h => h) (Or.inl ⟨by rfl, ?_⟩) (by assumption) ?_
           rotate_left
           · (intro w hSw; (try dsimp only at hSw); (try simp only [List.getElem_toArray, List.getElem_cons_zero, List.getElem_cons_succ]); go_simp; (try with_reducible rfl))
           (try simp only [List.getElem_toArray, List.getElem_cons_zero, List.getElem_cons_succ, Act.put, List.setIfInBounds_toArray, List.set_cons_zero, List.set_cons_succ])
           refine wpAnyH_take (i := 3) (v := ?_) rfl (by kernel_rfl) (by kernel_rfl) (by kernel_rfl) (fun _ _ _ h => h) (Or.inl ⟨by rfl, ?_⟩) (by assumption) ?_
           rotate_left
           · (intro w hSw; (try dsimp only at hSw); (try simp only [List.getElem_toArray, List.getElem_cons_zero, List.getElem_cons_succ]); go_simp; (try with_reducible rfl))
           (try simp only [List.getElem_toArray, List.getElem_cons_zero, List.getElem_cons_succ, Act.put, List.setIfInBounds_toArray, List.set_cons_zero, List.set_cons_succ])
           refine wpAnyH_take (i := 4) (v := ?_) rfl (by kernel_rfl) (by kernel_rfl) (by kernel_rfl) (fun _ _ _ h => h) (Or.inl ⟨by rfl, ?_⟩) (by assumption) ?_
           rotate_left
           · (intro w hSw; (try dsimp only at hSw); (try simp only [List.getElem_toArray, List.getElem_cons_zero, List.getElem_cons_succ]); go_simp; (try with_reducible rfl))
           (try simp only [List.getElem_toArray, List.getElem_cons_zero, List.getElem_cons_succ, Act.put, List.setIfInBounds_toArray, List.set_cons_zero, List.set_cons_succ])
           refine wpAnyH_take (i := 5) (v := ?_) rfl (by kernel_rfl) (by kernel_rfl) (by kernel_rfl) (fun _ _ _ h => h) (Or.inl ⟨by rfl, ?_⟩) (by assumption) ?_
           rotate_left
           · (intro w hSw; (try dsimp only at hSw); (try simp only [List.getElem_toArray, List.getElem_cons_zero, List.getElem_cons_succ]); go_simp; (try with_reducible rfl))
           (try simp only [List.getElem_toArray, List.getElem_cons_zero, List.getElem_cons_succ, Act.put, List.setIfInBounds_toArray, List.set_cons_zero, List.set_cons_succ])
           refine wpAnyH_take (i := 6) (v := ?_) rfl (by kernel_rfl) (by kernel_rfl) (by kernel_rfl) (fun _ _ _ h => h) (Or.inl ⟨by rfl, ?_⟩) (by assumption) ?_
           rotate_left
           · (intro w hSw; (try dsimp only at hSw); (try simp only [List.getElem_toArray, List.getElem_cons_zero, List.getElem_cons_succ]); go_simp; (try with_reducible rfl))
           (try simp only [List.getElem_toArray, List.getElem_cons_zero, List.getElem_cons_succ, Act.put, List.setIfInBounds_toArray, List.set_cons_zero, List.set_cons_succ])
           refine wpAnyH_take (i := 7) (v := ?_) rfl (by kernel_rfl) (by kernel_rfl) (by kernel_rfl) (fun _ _ _ h => h) (Or.inl ⟨by rfl, ?_⟩) (by assumption) ?_
           rotate_left
           · (intro w hSw; (try dsimp only at hSw); (try simp only [List.getElem_toArray, List.getElem_cons_zero, List.getElem_cons_succ]); go_simp; (try with_reducible rfl))
           (try simp only [List.getElem_toArray, List.getElem_cons_zero, List.getElem_cons_succ, Act.put, List.setIfInBounds_toArray, List.set_cons_zero, List.set_cons_succ])
           refine wpAnyH_take (i := 9) (v := ?_) rfl (by kernel_rfl) (by kernel_rfl) (by kernel_rfl) (fun _ _ _ h => h) (Or.inl ⟨by rfl, ?_⟩) (by assumption) ?_
           rotate_left
           · (intro w hSw; (try dsimp only at hSw); (try simp only [List.getElem_toArray, List.getElem_cons_zero, List.getElem_cons_succ]); go_simp; (try with_reducible rfl))
           (try simp only [List.getElem_toArray, List.getElem_cons_zero, List.getElem_cons_succ, Act.put, List.setIfInBounds_toArray, List.set_cons_zero, List.set_cons_succ])
           refine wpAnyH_take (i := 10) (v := ?_) rfl (by kernel_rfl) (by kernel_rfl) (by kernel_rfl) (fun _ _ _ h => h) (Or.inl ⟨by rfl, ?_⟩) (by assumption) ?_
           rotate_left
           · (intro w hSw; (try dsimp only at hSw); (try simp only [List.getElem_toArray, List.getElem_cons_zero, List.getElem_cons_succ]); go_simp; (try with_reducible rfl))
           (try simp only [List.getElem_toArray, List.getElem_cons_zero, List.getElem_cons_succ, Act.put, List.setIfInBounds_toArray, List.set_cons_zero, List.set_cons_succ])
           refine wpAnyH_take (i := 11) (v := ?_) rfl (by kernel_rfl) (by kernel_rfl) (by kernel_rfl) (fun _ _ _ h => h) (Or.inl ⟨by rfl, ?_⟩) (by assumption) ?_
           rotate_left
           · (intro w hSw; (try dsimp only at hSw); (try simp only [List.getElem_toArray, List.getElem_cons_zero, List.getElem_cons_succ]); go_simp; (try with_reducible rfl))
           (try simp only [List.getElem_toArray, List.getElem_cons_zero, List.getElem_cons_succ, Act.put, List.setIfInBounds_toArray, List.set_cons_zero, List.set_cons_succ])
           refine wpAnyH_take (i := 12) (v := ?_) rfl (by kernel_rfl) (by kernel_rfl) (by kernel_rfl) (fun _ _ _ h => h) (Or.inl ⟨by rfl, ?_⟩) (by assumption) ?_
           rotate_left
           · (intro w hSw; (try dsimp only at hSw); (try simp only [List.getElem_toArray, List.getElem_cons_zero, List.getElem_cons_succ]); go_simp; (try with_reducible rfl))
           (try simp only [List.getElem_toArray, List.getElem_cons_zero, List.getElem_cons_succ, Act.put, List.setIfInBounds_toArray, List.set_cons_zero, List.set_cons_succ])
           refine wpAnyH_take (i := 13) (v := ?_) rfl (by kernel_rfl) (by kernel_rfl) (by kernel_rfl) (fun _ _ _ h => h) (Or.inl ⟨by rfl, ?_⟩) (by assumption) ?_
           rotate_left
           · (intro w hSw; (try dsimp only at hSw); (try simp only [List.getElem_toArray, List.getElem_cons_zero, List.getElem_cons_succ]); go_simp; (try with_reducible rfl))
           (try simp only [List.getElem_toArray, List.getElem_cons_zero, List.getElem_cons_succ, Act.put, List.setIfInBounds_toArray, List.set_cons_zero, List.set_cons_succ])
           have HBO : Hid (w.heap.size <= B) := Lib.hid (by have := HLVB.out; have := HOB.out; omega)
           generalize wy.drew = wd at hHeld HT ⊢
           refine wpAnyH_ready (rs := [1, 8]) (by kernel_rfl) (by simp) ?_
           refine AllReadyH.cons rfl (fun K hK => ?_) ?_
           · skip
             have cl := blk_cell HT.out.box 6
             go_simp
             clear cl
             refine hK.out _ _ ?_ (fun hNew => ?_)
             · exact HSS.out _ (fun k h1 h2 => HT.out.only.block k h1 h2)
             clear hK K hHeld
             have hHeld := hNew
             clear hNew
             (try simp only [List.getElem_toArray, List.getElem_cons_zero, List.getElem_cons_succ, Act.put, List.setIfInBounds_toArray, List.set_cons_zero, List.set_cons_succ])
             refine wpAnyH_ready (rs := [8]) (by kernel_rfl) (by simp) ?_
             refine AllReadyH.cons rfl (fun K hK => ?_) AllReadyH.nil
             go_simp
             refine (lhas_any p m f ha (.slice a5 n5 cap5) jj x (.agg #[.slice (some ⟨fb, foff, none⟩) n1 cap, .slice (some ⟨bp, offp, none⟩) n2 cap2, .int .i64 p.trim, .int .i64 p.sheets]) wd (HP.out.later (HT.out.below HBW.out HBO.out)) HE.out (makes_ok HM.out) HF.out HX.out (H3.out.later (HT.out.below HBW.out HBO.out))).mono ?_
             rintro e u1 ⟨rfl, hb4⟩
             have HT := Lib.hid (HT.out.later hb4)
             obtain ⟨zb, hzb⟩ : ∃ z, z = markB (colsF (fdsB f.folds)) (rowsF (fdsB f.folds)) (turnN ha x.sheet % 2) x := ⟨_, rfl⟩
             rw [<- hzb]
             have HZB := Lib.hid hzb
             clear hb4 hzb
             dsimp only
             go_simp
             refine hK.out _ _ ?_ (fun hNew => ?_)
             · exact HSS.out _ (fun k h1 h2 => HT.out.only.block k h1 h2)
             clear hK K hHeld
             have hHeld := hNew
             clear hNew
             (try simp only [List.getElem_toArray, List.getElem_cons_zero, List.getElem_cons_succ, Act.put, List.setIfInBounds_toArray, List.set_cons_zero, List.set_cons_succ])
             refine wpAnyH_take (i := 14) (v := ?_) rfl (by kernel_rfl) (by kernel_rfl) (by kernel_rfl) (fun _ _ _ h => h) (Or.inl ⟨by rfl, ?_⟩) (by assumption) ?_
             rotate_left
             · (intro w hSw; (try dsimp only at hSw); (try simp only [List.getElem_toArray, List.getElem_cons_zero, List.getElem_cons_succ]); go_simp; (try with_reducible rfl))
             (try simp only [List.getElem_toArray, List.getElem_cons_zero, List.getElem_cons_succ, Act.put, List.setIfInBounds_toArray, List.set_cons_zero, List.set_cons_succ])
             refine wpAnyH_take (i := 15) (v := ?_) rfl (by kernel_rfl) (by kernel_rfl) (by kernel_rfl) (fun _ _ _ h => h) (Or.inl ⟨by rfl, ?_⟩) (by assumption) ?_
             rotate_left
             · (intro w hSw; (try dsimp only at hSw); (try simp only [List.getElem_toArray, List.getElem_cons_zero, List.getElem_cons_succ]); go_simp; (try with_reducible rfl))
             (try simp only [List.getElem_toArray, List.getElem_cons_zero, List.getElem_cons_succ, Act.put, List.setIfInBounds_toArray, List.set_cons_zero, List.set_cons_succ])
             refine wpAnyH_ready (rs := [16]) (by kernel_rfl) (by simp) ?_
             refine AllReadyH.cons rfl (fun K hK => ?_) AllReadyH.nil
             go_simp
             obtain ⟨u2, hu2⟩ : ∃ v, v = (u1).alloc (.cells #[.int .i64 jj, .bool (!(zb == bt))] 58) := ⟨_, rfl⟩
             have hbu : Below (u1).heap.size u1 u2 := by rw [hu2]; exact (Below.refl _ _).alloc (Nat.le_refl _) _
             have hc5 : (u2).heap[(u1).heap.size]? = some (.cells #[.int .i64 jj, .bool (!(zb == bt))] 58 (0, 0)) := by rw [hu2]; exact World.alloc_heap_new _ _
             rw [<- hu2]
             have HT := Lib.hid (HT.out.later hbu)
             generalize (u1).heap.size = gb at hc5 ⊢
             have C5 := Lib.hid hc5
             clear hu2 hbu hc5
             refine hK.out _ _ ?_ (fun hNew => ?_)
             · exact HSS.out _ (fun k h1 h2 => HT.out.only.block k h1 h2)
             clear hK K hHeld
             have hHeld := hNew
             clear hNew
             (try simp only [List.getElem_toArray, List.getElem_cons_zero, List.getElem_cons_succ, Act.put, List.setIfInBounds_toArray, List.set_cons_zero, List.set_cons_succ])
             refine wpAnyH_ready (rs := [17]) (by kernel_rfl) (by simp) ?_
             refine AllReadyH.cons rfl (fun K hK => ?_) AllReadyH.nil
             obtain ⟨hi1, hi2, hi3, hi4⟩ := HI.out
             have hml : ((List.range k).map (tellI p m ha la bits)).length = k := by simp
             obtain ⟨v6, u3, hr6, hown6, hg6, -⟩ := run_append_own (P := Tryz.prog) u2 W.heap.size 28 28 58 ei _ 2 16 undMrks hi1 hi2 hi3 hi4 rfl (by decide) v _ _ HT.out.row ⟨gb, 0, none⟩ 1 1 [.int .i64 jj, .bool (!(zb == bt))] rfl
              (fun j y hju => by
               rw [add_offi]
               exact (blk_cell C5.out j).trans (by simpa using hju)) (fun y hy => by simp at hy; rcases hy with rfl | rfl <;> rfl) (by rw [hml]; simp only [maxLen]; omega) (by rw [hml]; omega) (HT.out.only.size)
             rw [hml] at hown6
             obtain ⟨g9, cap9, rfl, -⟩ := row_formH hown6 (Nat.succ_pos _)
             have HADD := Lib.hid (HT.out.add (x := ((jj : Int), !(zb == bt))) (by rw [hml]; exact hown6) hg6)
             have HBX := Lib.hid ((HT.out.grown hg6 HT.out.lt).trans HT.out.box)
             have HKP : Hid (∀ k, k < W.heap.size -> k ≠ B -> (u3).heap[k]? = W.heap[k]?) := Lib.hid (fun k h1 h2 => (HT.out.grown hg6 h1).trans (HT.out.only.block k h1 h2))
             rw [if_pos (by kernel_rfl)]
             refine wp_append_rows (.tmp 140) (.tmp 155) 28 rfl rfl rfl hr6 ?_
             clear hi1 hi2 hi3 hi4 hr6 hown6 hg6 hml C5
             (try simp only [Act.put, List.setIfInBounds_toArray, List.set_cons_zero, List.set_cons_succ])
             refine hK.out _ _ ?_ (fun hNew => ?_)
             · exact HSS.out _ HKP.out
             clear hK K hHeld
             have hHeld := hNew
             clear hNew
             (try simp only [List.getElem_toArray, List.getElem_cons_zero, List.getElem_cons_succ, Act.put, List.setIfInBounds_toArray, List.set_cons_zero, List.set_cons_succ])
             refine wpAnyH_take (i := 18) (v := ?_) rfl (by kernel_rfl) (by kernel_rfl) (by kernel_rfl) (fun _ _ _ h => h) (Or.inl ⟨by rfl, ?_⟩) (by assumption) ?_
             rotate_left
             · (intro w hSw; (try dsimp only at hSw); (try simp only [List.getElem_toArray, List.getElem_cons_zero, List.getElem_cons_succ]); go_simp; (try with_reducible rfl))
             (try simp only [List.getElem_toArray, List.getElem_cons_zero, List.getElem_cons_succ, Act.put, List.setIfInBounds_toArray, List.set_cons_zero, List.set_cons_succ])
             refine wpAnyH_ready (rs := [19]) (by kernel_rfl) (by simp) ?_
             refine AllReadyH.cons rfl (fun K hK => ?_) AllReadyH.nil
             have c6 := blk_cell HBX.out 6
             have f6 := blk_free HBX.out 6
             go_simp
             clear c6 f6
             refine hK.out _ _ ?_ (fun hNew => ?_)
             · exact HSS.out _ (fun k h1 h2 => HADD.out.only.block k h1 h2)
             clear hK K hHeld
             have hHeld := hNew
             clear hNew
             (try simp only [List.getElem_toArray, List.getElem_cons_zero, List.getElem_cons_succ, Act.put, List.setIfInBounds_toArray, List.set_cons_zero, List.set_cons_succ])
             refine wpAnyH_done (by kernel_rfl) ?_ _
             have e : tellI p m ha la bits k = ((jj : Int), !(zb == bt)) := by
              rw [tell_is HF.out (j := jj) (HJ.out.2.trans (by rw [HJ.out.1, HNL.out])) HX.out, <- HZB.out, HBT.out]
              rfl
             have HNX := HADD
             rw [<- e, <- tell_next] at HNX
             clear hHeld e HADD HT HBX HKP
             go_wp2_with fail
             go_roundw
             case rel => exact ⟨k + 1, _, by omega, by go_num, HNX⟩
             case measure => exact loop_less hlt
           · refine AllReadyH.cons rfl (fun K hK => ?_) AllReadyH.nil
             go_simp
             refine (lhas_any p m f ha (.slice a5 n5 cap5) jj x (.agg #[.slice (some ⟨fb, foff, none⟩) n1 cap, .slice (some ⟨bp, offp, none⟩) n2 cap2, .int .i64 p.trim, .int .i64 p.sheets]) wd (HP.out.later (HT.out.below HBW.out HBO.out)) HE.out (makes_ok HM.out) HF.out HX.out (H3.out.later (HT.out.below HBW.out HBO.out))).mono ?_
             rintro e u1 ⟨rfl, hb4⟩
             have HT := Lib.hid (HT.out.later hb4)
             obtain ⟨zb, hzb⟩ : ∃ z, z = markB (colsF (fdsB f.folds)) (rowsF (fdsB f.folds)) (turnN ha x.sheet % 2) x := ⟨_, rfl⟩
             rw [<- hzb]
             have HZB := Lib.hid hzb
             clear hb4 hzb
             dsimp only
             go_simp
             refine hK.out _ _ ?_ (fun hNew => ?_)
             · exact HSS.out _ (fun k h1 h2 => HT.out.only.block k h1 h2)
             clear hK K hHeld
             have hHeld := hNew
             clear hNew
             (try simp only [List.getElem_toArray, List.getElem_cons_zero, List.getElem_cons_succ, Act.put, List.setIfInBounds_toArray, List.set_cons_zero, List.set_cons_succ])
             refine wpAnyH_take (i := 14) (v := ?_) rfl (by kernel_rfl) (by kernel_rfl) (by kernel_rfl) (fun _ _ _ h => h) (Or.inl ⟨by rfl, ?_⟩) (by assumption) ?_
             rotate_left
             · (intro w hSw; (try dsimp only at hSw); (try simp only [List.getElem_toArray, List.getElem_cons_zero, List.getElem_cons_succ]); go_simp; (try with_reducible rfl))
             (try simp only [List.getElem_toArray, List.getElem_cons_zero, List.getElem_cons_succ, Act.put, List.setIfInBounds_toArray, List.set_cons_zero, List.set_cons_succ])
             refine wpAnyH_take (i := 15) (v := ?_) rfl (by kernel_rfl) (by kernel_rfl) (by kernel_rfl) (fun _ _ _ h => h) (Or.inl ⟨by rfl, ?_⟩) (by assumption) ?_
             rotate_left
             · (intro w hSw; (try dsimp only at hSw); (try simp only [List.getElem_toArray, List.getElem_cons_zero, List.getElem_cons_succ]); go_simp; (try with_reducible rfl))
             (try simp only [List.getElem_toArray, List.getElem_cons_zero, List.getElem_cons_succ, Act.put, List.setIfInBounds_toArray, List.set_cons_zero, List.set_cons_succ])
             refine wpAnyH_ready (rs := [1, 16]) (by kernel_rfl) (by simp) ?_
             refine AllReadyH.cons rfl (fun K hK => ?_) ?_
             · skip
               have cl := blk_cell HT.out.box 6
               go_simp
               clear cl
               refine hK.out _ _ ?_ (fun hNew => ?_)
               · exact HSS.out _ (fun k h1 h2 => HT.out.only.block k h1 h2)
               clear hK K hHeld
               have hHeld := hNew
               clear hNew
               (try simp only [List.getElem_toArray, List.getElem_cons_zero, List.getElem_cons_succ, Act.put, List.setIfInBounds_toArray, List.set_cons_zero, List.set_cons_succ])
               refine wpAnyH_ready (rs := [16]) (by kernel_rfl) (by simp) ?_
               refine AllReadyH.cons rfl (fun K hK => ?_) AllReadyH.nil
               go_simp
               obtain ⟨u2, hu2⟩ : ∃ v, v = (u1).alloc (.cells #[.int .i64 jj, .bool (!(zb == bt))] 58) := ⟨_, rfl⟩
               have hbu : Below (u1).heap.size u1 u2 := by rw [hu2]; exact (Below.refl _ _).alloc (Nat.le_refl _) _
               have hc5 : (u2).heap[(u1).heap.size]? = some (.cells #[.int .i64 jj, .bool (!(zb == bt))] 58 (0, 0)) := by rw [hu2]; exact World.alloc_heap_new _ _
               rw [<- hu2]
               have HT := Lib.hid (HT.out.later hbu)
               generalize (u1).heap.size = gb at hc5 ⊢
               have C5 := Lib.hid hc5
               clear hu2 hbu hc5
               refine hK.out _ _ ?_ (fun hNew => ?_)
               · exact HSS.out _ (fun k h1 h2 => HT.out.only.block k h1 h2)
               clear hK K hHeld
               have hHeld := hNew
               clear hNew
               (try simp only [List.getElem_toArray, List.getElem_cons_zero, List.getElem_cons_succ, Act.put, List.setIfInBounds_toArray, List.set_cons_zero, List.set_cons_succ])
               refine wpAnyH_ready (rs := [17]) (by kernel_rfl) (by simp) ?_
               refine AllReadyH.cons rfl (fun K hK => ?_) AllReadyH.nil
               obtain ⟨hi1, hi2, hi3, hi4⟩ := HI.out
               have hml : ((List.range k).map (tellI p m ha la bits)).length = k := by simp
               obtain ⟨v6, u3, hr6, hown6, hg6, -⟩ := run_append_own (P := Tryz.prog) u2 W.heap.size 28 28 58 ei _ 2 16 undMrks hi1 hi2 hi3 hi4 rfl (by decide) v _ _ HT.out.row ⟨gb, 0, none⟩ 1 1 [.int .i64 jj, .bool (!(zb == bt))] rfl
                (fun j y hju => by
                 rw [add_offi]
                 exact (blk_cell C5.out j).trans (by simpa using hju)) (fun y hy => by simp at hy; rcases hy with rfl | rfl <;> rfl) (by rw [hml]; simp only [maxLen]; omega) (by rw [hml]; omega) (HT.out.only.size)
               rw [hml] at hown6
               obtain ⟨g9, cap9, rfl, -⟩ := row_formH hown6 (Nat.succ_pos _)
               have HADD := Lib.hid (HT.out.add (x := ((jj : Int), !(zb == bt))) (by rw [hml]; exact hown6) hg6)
               have HBX := Lib.hid ((HT.out.grown hg6 HT.out.lt).trans HT.out.box)
               have HKP : Hid (∀ k, k < W.heap.size -> k ≠ B -> (u3).heap[k]? = W.heap[k]?) := Lib.hid (fun k h1 h2 => (HT.out.grown hg6 h1).trans (HT.out.only.block k h1 h2))
               rw [if_pos (by kernel_rfl)]
               refine wp_append_rows (.tmp 140) (.tmp 155) 28 rfl rfl rfl hr6 ?_
               clear hi1 hi2 hi3 hi4 hr6 hown6 hg6 hml C5
               (try simp only [Act.put, List.setIfInBounds_toArray, List.set_cons_zero, List.set_cons_succ])
               refine hK.out _ _ ?_ (fun hNew => ?_)
               · exact HSS.out _ HKP.out
               clear hK K hHeld
               have hHeld := hNew
               clear hNew
               (try simp only [List.getElem_toArray, List.getElem_cons_zero, List.getElem_cons_succ, Act.put, List.setIfInBounds_toArray, List.set_cons_zero, List.set_cons_succ])
               refine wpAnyH_take (i := 18) (v := ?_) rfl (by kernel_rfl) (by kernel_rfl) (by kernel_rfl) (fun _ _ _ h => h) (Or.inl ⟨by rfl, ?_⟩) (by assumption) ?_
               rotate_left
               · (intro w hSw; (try dsimp only at hSw); (try simp only [List.getElem_toArray, List.getElem_cons_zero, List.getElem_cons_succ]); go_simp; (try with_reducible rfl))
               (try simp only [List.getElem_toArray, List.getElem_cons_zero, List.getElem_cons_succ, Act.put, List.setIfInBounds_toArray, List.set_cons_zero, List.set_cons_succ])
               refine wpAnyH_ready (rs := [19]) (by kernel_rfl) (by simp) ?_
               refine AllReadyH.cons rfl (fun K hK => ?_) AllReadyH.nil
               have c6 := blk_cell HBX.out 6
               have f6 := blk_free HBX.out 6
               go_simp
               clear c6 f6
               refine hK.out _ _ ?_ (fun hNew => ?_)
               · exact HSS.out _ (fun k h1 h2 => HADD.out.only.block k h1 h2)
               clear hK K hHeld
               have hHeld := hNew
               clear hNew
               (try simp only [List.getElem_toArray, List.getElem_cons_zero, List.getElem_cons_succ, Act.put, List.setIfInBounds_toArray, List.set_cons_zero, List.set_cons_succ])
               refine wpAnyH_done (by kernel_rfl) ?_ _
               have e : tellI p m ha la bits k = ((jj : Int), !(zb == bt)) := by
                rw [tell_is HF.out (j := jj) (HJ.out.2.trans (by rw [HJ.out.1, HNL.out])) HX.out, <- HZB.out, HBT.out]
                rfl
               have HNX := HADD
               rw [<- e, <- tell_next] at HNX
               clear hHeld e HADD HT HBX HKP
               go_wp2_with fail
               go_roundw
               case rel => exact ⟨k + 1, _, by omega, by go_num, HNX⟩
               case measure => exact loop_less hlt
             · refine AllReadyH.cons rfl (fun K hK => ?_) AllReadyH.nil
               go_simp
               obtain ⟨u2, hu2⟩ : ∃ v, v = (u1).alloc (.cells #[.int .i64 jj, .bool (!(zb == bt))] 58) := ⟨_, rfl⟩
               have hbu : Below (u1).heap.size u1 u2 := by rw [hu2]; exact (Below.refl _ _).alloc (Nat.le_refl _) _
               have hc5 : (u2).heap[(u1).heap.size]? = some (.cells #[.int .i64 jj, .bool (!(zb == bt))] 58 (0, 0)) := by rw [hu2]; exact World.alloc_heap_new _ _
               rw [<- hu2]
               have HT := Lib.hid (HT.out.later hbu)
               generalize (u1).heap.size = gb at hc5 ⊢
               have C5 := Lib.hid hc5
               clear hu2 hbu hc5
               refine hK.out _ _ ?_ (fun hNew => ?_)
               · exact HSS.out _ (fun k h1 h2 => HT.out.only.block k h1 h2)
               clear hK K hHeld
               have hHeld := hNew
               clear hNew
               (try simp only [List.getElem_toArray, List.getElem_cons_zero, List.getElem_cons_succ, Act.put, List.setIfInBounds_toArray, List.set_cons_zero, List.set_cons_succ])
               refine wpAnyH_ready (rs := [1]) (by kernel_rfl) (by simp) ?_
               refine AllReadyH.cons rfl (fun K hK => ?_) AllReadyH.nil
               have cl := blk_cell HT.out.box 6
               go_simp
               clear cl
               refine hK.out _ _ ?_ (fun hNew => ?_)
               · exact HSS.out _ (fun k h1 h2 => HT.out.only.block k h1 h2)
               clear hK K hHeld
               have hHeld := hNew
               clear hNew
               (try simp only [List.getElem_toArray, List.getElem_cons_zero, List.getElem_cons_succ, Act.put, List.setIfInBounds_toArray, List.set_cons_zero, List.set_cons_succ])
               refine wpAnyH_ready (rs := [17]) (by kernel_rfl) (by simp) ?_
               refine AllReadyH.cons rfl (fun K hK => ?_) AllReadyH.nil
               obtain ⟨hi1, hi2, hi3, hi4⟩ := HI.out
               have hml : ((List.range k).map (tellI p m ha la bits)).length = k := by simp
               obtain ⟨v6, u3, hr6, hown6, hg6, -⟩ := run_append_own (P := Tryz.prog) u2 W.heap.size 28 28 58 ei _ 2 16 undMrks hi1 hi2 hi3 hi4 rfl (by decide) v _ _ HT.out.row ⟨gb, 0, none⟩ 1 1 [.int .i64 jj, .bool (!(zb == bt))] rfl
                (fun j y hju => by
                 rw [add_offi]
                 exact (blk_cell C5.out j).trans (by simpa using hju)) (fun y hy => by simp at hy; rcases hy with rfl | rfl <;> rfl) (by rw [hml]; simp only [maxLen]; omega) (by rw [hml]; omega) (HT.out.only.size)
               rw [hml] at hown6
               obtain ⟨g9, cap9, rfl, -⟩ := row_formH hown6 (Nat.succ_pos _)
               have HADD := Lib.hid (HT.out.add (x := ((jj : Int), !(zb == bt))) (by rw [hml]; exact hown6) hg6)
               have HBX := Lib.hid ((HT.out.grown hg6 HT.out.lt).trans HT.out.box)
               have HKP : Hid (∀ k, k < W.heap.size -> k ≠ B -> (u3).heap[k]? = W.heap[k]?) := Lib.hid (fun k h1 h2 => (HT.out.grown hg6 h1).trans (HT.out.only.block k h1 h2))
               rw [if_pos (by kernel_rfl)]
               refine wp_append_rows (.tmp 140) (.tmp 155) 28 rfl rfl rfl hr6 ?_
               clear hi1 hi2 hi3 hi4 hr6 hown6 hg6 hml C5
               (try simp only [Act.put, List.setIfInBounds_toArray, List.set_cons_zero, List.set_cons_succ])
               refine hK.out _ _ ?_ (fun hNew => ?_)
               · exact HSS.out _ HKP.out
               clear hK K hHeld
               have hHeld := hNew
               clear hNew
               (try simp only [List.getElem_toArray, List.getElem_cons_zero, List.getElem_cons_succ, Act.put, List.setIfInBounds_toArray, List.set_cons_zero, List.set_cons_succ])
               refine wpAnyH_take (i := 18) (v := ?_) rfl (by kernel_rfl) (by kernel_rfl) (by kernel_rfl) (fun _ _ _ h => h) (Or.inl ⟨by rfl, ?_⟩) (by assumption) ?_
               rotate_left
               · (intro w hSw; (try dsimp only at hSw); (try simp only [List.getElem_toArray, List.getElem_cons_zero, List.getElem_cons_succ]); go_simp; (try with_reducible rfl))
               (try simp only [List.getElem_toArray, List.getElem_cons_zero, List.getElem_cons_succ, Act.put, List.setIfInBounds_toArray, List.set_cons_zero, List.set_cons_succ])
               refine wpAnyH_ready (rs := [19]) (by kernel_rfl) (by simp) ?_
               refine AllReadyH.cons rfl (fun K hK => ?_) AllReadyH.nil
               have c6 := blk_cell HBX.out 6
               have f6 := blk_free HBX.out 6
               go_simp
               clear c6 f6
               refine hK.out _ _ ?_ (fun hNew => ?_)
               · exact HSS.out _ (fun k h1 h2 => HADD.out.only.block k h1 h2)
               clear hK K hHeld
               have hHeld := hNew
               clear hNew
               (try simp only [List.getElem_toArray, List.getElem_cons_zero, List.getElem_cons_succ, Act.put, List.setIfInBounds_toArray, List.set_cons_zero, List.set_cons_succ])
               refine wpAnyH_done (by kernel_rfl) ?_ _
               have e : tellI p m ha la bits k = ((jj : Int), !(zb == bt)) := by
                rw [tell_is HF.out (j := jj) (HJ.out.2.trans (by rw [HJ.out.1, HNL.out])) HX.out, <- HZB.out, HBT.out]
                rfl
               have HNX := HADD
               rw [<- e, <- tell_next] at HNX
               clear hHeld e HADD HT HBX HKP
               go_wp2_with fail
               go_roundw
               case rel => exact ⟨k + 1, _, by omega, by go_num, HNX⟩
               case measure => exact loop_less hlt
         · go_wp2_with fail
           have Y3 := Lib.hid (blk_later HW9.out V3.out)
           have Y4 := Lib.hid (blk_later HW9.out V4.out)
           have ho : O ≠ B := by have := HZO.out; have := HOB.out; omega
           have ho2 : O < W.heap.size := by have := HZO.out; have := HOB.out; omega
           have hr1 : w.heap.size + 2 < W.heap.size := blk_lt Y3.out
           have hr2 : w.heap.size + 3 < W.heap.size := blk_lt Y4.out
           have hr3 : w.heap.size + 3 < Z9 := by have := blk_lt V4.out; have := HZ9.out; omega
           have R3 := Lib.hid (blk_drew (HS.out.blk hr1 (by have := HOB.out; omega) Y3.out))
           have R4 := Lib.hid (blk_drew (HS.out.blk hr2 (by have := HOB.out; omega) Y4.out))
           have R5 := Lib.hid (blk_drew (HS.out.blk ho2 ho HM3.out))
           have hml : ((List.range k).map (tellI p m ha la bits)).length = k := by simp
           obtain ⟨mo, mc, hv, -⟩ := rows_of_own (enc := mrkV) (fun _ => rfl) HS.out.row
           rw [hml] at hv
           subst hv
           clear hml
           have R6 := Lib.hid (blk_drew HS.out.box)
           have HNK : Hid (k = N) := Lib.hid (by omega)
           have HOO : Hid (O ≠ w.heap.size + 1 + 1 /\ O ≠ w.heap.size + 1 + 1 + 1) := Lib.hid (by have := HZ4.out; have := HOZ.out; omega)
           clear e3 hlt hr1 hr2 ho ho2
           obtain ⟨wd, hwd⟩ : ∃ v, v = wx.drew := ⟨_, rfl⟩
           rw [<- hwd] at R3 R4 R5 R6
           have HSS : Hid (∀ u : World, u.heap[B]? = wd.heap[B]? -> u.heap[O]? = wd.heap[O]? -> u.cell? ⟨B, 0, none⟩ = some (.int .i64 NL) /\ u.cell? ⟨B, 1, none⟩ = some (.int .i64 ch) /\ u.cell? ⟨B, 2, none⟩ = some (.int .i64 b1) /\ u.cell? ⟨B, 3, none⟩ = some (.int .i64 b2) /\ u.cell? ⟨B, 4, none⟩ = some (.int .i64 b3) /\ u.cell? ⟨B, 5, none⟩ = some (.int .i64 b4) /\ u.cell? ⟨B, 6, none⟩ = some (.slice mo k mc) /\ u.cell? ⟨O, 0, none⟩ = some (.int .i64 m.fmt) /\ u.cell? ⟨O, 1, none⟩ = some (.int .i64 m.ppr) /\ u.cell? ⟨O, 2, none⟩ = some (.int .i64 m.sheets) /\ u.cell? ⟨O, 3, none⟩ = some (.bool m.half)) := Lib.hid (fun u h1 h2 => ⟨blk_cell (h1.trans R6.out) 0, blk_cell (h1.trans R6.out) 1, blk_cell (h1.trans R6.out) 2, blk_cell (h1.trans R6.out) 3, blk_cell (h1.trans R6.out) 4, blk_cell (h1.trans R6.out) 5, blk_cell (h1.trans R6.out) 6, blk_cell (h2.trans R5.out) 0, blk_cell (h2.trans R5.out) 1, blk_cell (h2.trans R5.out) 2, blk_cell (h2.trans R5.out) 3⟩)
           refine wp_region_held_drew (S := fun u => u.cell? ⟨B, 0, none⟩ = some (.int .i64 NL) /\ u.cell? ⟨B, 1, none⟩ = some (.int .i64 ch) /\ u.cell? ⟨B, 2, none⟩ = some (.int .i64 b1) /\ u.cell? ⟨B, 3, none⟩ = some (.int .i64 b2) /\ u.cell? ⟨B, 4, none⟩ = some (.int .i64 b3) /\ u.cell? ⟨B, 5, none⟩ = some (.int .i64 b4) /\ u.cell? ⟨B, 6, none⟩ = some (.slice mo k mc) /\ u.cell? ⟨O, 0, none⟩ = some (.int .i64 m.fmt) /\ u.cell? ⟨O, 1, none⟩ = some (.int .i64 m.ppr) /\ u.cell? ⟨O, 2, none⟩ = some (.int .i64 m.sheets) /\ u.cell? ⟨O, 3, none⟩ = some (.bool m.half)) (by kernel_rfl) (by rw [<- hwd]; exact HSS.out _ rfl rfl) (fun hHeld => ?_)
           have HWD : Hid (Below w.heap.size w wd) := Lib.hid (by rw [hwd]; exact Below.drew (HS.out.below HBW.out (by have := HLVB.out; have := HOB.out; omega)))
           rw [<- hwd] at hHeld ⊢
           have HRW := Lib.hid (show wd.ownsRow _ _ _ _ _ _ from by rw [hwd]; exact row_later HS.out.row (Below.drew (Below.refl _ _)))
           clear hwd
           refine wpAnyH_take (i := 0) (v := ?_) rfl (by kernel_rfl) (by kernel_rfl) (by kernel_rfl) (fun _ _ _ h => h) (Or.inl ⟨by rfl, ?_⟩) (by assumption) ?_
           rotate_left
           · (intro w hSw; (try dsimp only at hSw); (try simp only [List.getElem_toArray, List.getElem_cons_zero, List.getElem_cons_succ]); go_simp; (try with_reducible rfl))
           (try simp only [List.getElem_toArray, List.getElem_cons_zero, List.getElem_cons_succ, Act.put, List.setIfInBounds_toArray, List.set_cons_zero, List.set_cons_succ])
           refine wpAnyH_take (i := 1) (v := ?_) rfl (by kernel_rfl) (by kernel_rfl) (by kernel_rfl) (fun _ _ _ h => h) (Or.inl ⟨by rfl, ?_⟩) (by assumption) ?_
           rotate_left
           · (intro w hSw; (try dsimp only at hSw); (try simp only [List.getElem_toArray, List.getElem_cons_zero, List.getElem_cons_succ]); go_simp; (try with_reducible rfl))
           (try simp only [List.getElem_toArray, List.getElem_cons_zero, List.getElem_cons_succ, Act.put, List.setIfInBounds_toArray, List.set_cons_zero, List.set_cons_succ])
           refine wpAnyH_ready (rs := [2]) (by kernel_rfl) (by simp) ?_
           refine AllReadyH.cons rfl (fun K hK => ?_) AllReadyH.nil
           have c0 := blk_cell R3.out 0
           have c1 := blk_cell R3.out 1
           have c2 := blk_cell R3.out 2
           have c3 := blk_cell R3.out 3
           have c4 := blk_cell R3.out 4
           have c5 := blk_cell R3.out 5
           have c6 := blk_cell R3.out 6
           have f0 := blk_free R3.out 0
           have f1 := blk_free R3.out 1
           have f2 := blk_free R3.out 2
           have f3 := blk_free R3.out 3
           have f4 := blk_free R3.out 4
           have f5 := blk_free R3.out 5
           have f6 := blk_free R3.out 6
           go_simp
           clear c0 c1 c2 c3 c4 c5 c6 f0 f1 f2 f3 f4 f5 f6
           have hq2 : w.heap.size <= w.heap.size + 1 + 1 := by omega
           have hq3 : w.heap.size <= w.heap.size + 1 + 1 + 1 := by omega
           have hq4 : w.heap.size + 1 + 1 < W.heap.size := by have := HOB.out; have := HS.out.lt; omega
           have hq5 : w.heap.size + 1 + 1 + 1 < W.heap.size := by have := HOB.out; have := HS.out.lt; omega
           have hqB : w.heap.size + 1 + 1 + 1 < B := by have := HOB.out; omega
           obtain ⟨u5, hu5⟩ : ∃ v, v = (((((((wd.setCell ⟨w.heap.size + 1 + 1, 0, none⟩ (.int .i64 NL)).setCell ⟨w.heap.size + 1 + 1, 1, none⟩ (.int .i64 ch)).setCell ⟨w.heap.size + 1 + 1, 2, none⟩ (.int .i64 b1)).setCell ⟨w.heap.size + 1 + 1, 3, none⟩ (.int .i64 b2)).setCell ⟨w.heap.size + 1 + 1, 4, none⟩ (.int .i64 b3)).setCell ⟨w.heap.size + 1 + 1, 5, none⟩ (.int .i64 b4)).setCell ⟨w.heap.size + 1 + 1, 6, none⟩ (.slice mo k mc)) := ⟨_, rfl⟩
           have hb5 : Below w.heap.size w u5 := by rw [hu5]; exact (((((((HWD.out.setCell hq2 _).setCell hq2 _).setCell hq2 _).setCell hq2 _).setCell hq2 _).setCell hq2 _).setCell hq2 _)
           have hk5 : ∀ k, k ≠ w.heap.size + 1 + 1 -> u5.heap[k]? = wd.heap[k]? := fun k hk => by rw [hu5]; exact ((((((heap_setCell_past _ _ _ _ hk).trans (heap_setCell_past _ _ _ _ hk)).trans (heap_setCell_past _ _ _ _ hk)).trans (heap_setCell_past _ _ _ _ hk)).trans (heap_setCell_past _ _ _ _ hk)).trans (heap_setCell_past _ _ _ _ hk)).trans (heap_setCell_past _ _ _ _ hk)
           have x5 : u5.heap[w.heap.size + 1 + 1]? = some (.cells #[.int .i64 NL, .int .i64 ch, .int .i64 b1, .int .i64 b2, .int .i64 b3, .int .i64 b4, .slice mo k mc] 30 (0, 0)) := by rw [hu5]; exact blk_set (blk_set (blk_set (blk_set (blk_set (blk_set (blk_set (R3.out) 0 _) 1 _) 2 _) 3 _) 4 _) 5 _) 6 _
           have r5 := Lib.hid (show u5.ownsRow _ _ _ _ _ _ from by rw [hu5]; exact (ownsRow_setCell_below (ownsRow_setCell_below (ownsRow_setCell_below (ownsRow_setCell_below (ownsRow_setCell_below (ownsRow_setCell_below (ownsRow_setCell_below HRW.out hq4 _) hq4 _) hq4 _) hq4 _) hq4 _) hq4 _) hq4 _))
           rw [<- hu5]
           have HB5 := Lib.hid hb5
           have X5 := Lib.hid x5
           have HRW5 := r5
           have hnO : O ≠ w.heap.size + 1 + 1 /\ O ≠ w.heap.size + 1 + 1 + 1 := HOO.out
           have Q4 := Lib.hid ((hk5 _ (show w.heap.size + 1 + 1 + 1 ≠ w.heap.size + 1 + 1 by omega)).trans R4.out)
           have HK5 := Lib.hid hk5
           clear hu5 hb5 hk5 x5 r5
           refine hK.out _ _ (HSS.out _ (HK5.out _ (by omega)) (HK5.out _ hnO.1)) (fun hNew => ?_)
           clear hK K hHeld
           have hHeld := hNew
           clear hNew
           (try simp only [Act.put, List.setIfInBounds_toArray, List.set_cons_zero, List.set_cons_succ])
           refine wpAnyH_ready (rs := [3]) (by kernel_rfl) (by simp) ?_
           refine AllReadyH.cons rfl (fun K hK => ?_) AllReadyH.nil
           have c0 := blk_cell Q4.out 0
           have c1 := blk_cell Q4.out 1
           have c2 := blk_cell Q4.out 2
           have c3 := blk_cell Q4.out 3
           have f0 := blk_free Q4.out 0
           have f1 := blk_free Q4.out 1
           have f2 := blk_free Q4.out 2
           have f3 := blk_free Q4.out 3
           go_simp
           clear c0 c1 c2 c3 f0 f1 f2 f3
           obtain ⟨u6, hu6⟩ : ∃ v, v = ((((u5.setCell ⟨w.heap.size + 1 + 1 + 1, 0, none⟩ (.int .i64 m.fmt)).setCell ⟨w.heap.size + 1 + 1 + 1, 1, none⟩ (.int .i64 m.ppr)).setCell ⟨w.heap.size + 1 + 1 + 1, 2, none⟩ (.int .i64 m.sheets)).setCell ⟨w.heap.size + 1 + 1 + 1, 3, none⟩ (.bool m.half)) := ⟨_, rfl⟩
           have hb6 : Below w.heap.size w u6 := by rw [hu6]; exact ((((HB5.out.setCell hq3 _).setCell hq3 _).setCell hq3 _).setCell hq3 _)
           have hk6 : ∀ k, k ≠ w.heap.size + 1 + 1 + 1 -> u6.heap[k]? = u5.heap[k]? := fun k hk => by rw [hu6]; exact (((heap_setCell_past _ _ _ _ hk).trans (heap_setCell_past _ _ _ _ hk)).trans (heap_setCell_past _ _ _ _ hk)).trans (heap_setCell_past _ _ _ _ hk)
           have x6 : u6.heap[w.heap.size + 1 + 1 + 1]? = some (.cells #[.int .i64 m.fmt, .int .i64 m.ppr, .int .i64 m.sheets, .bool m.half] 50 (0, 0)) := by rw [hu6]; exact blk_set (blk_set (blk_set (blk_set (Q4.out) 0 _) 1 _) 2 _) 3 _
           have r6 := Lib.hid (show u6.ownsRow _ _ _ _ _ _ from by rw [hu6]; exact (ownsRow_setCell_below (ownsRow_setCell_below (ownsRow_setCell_below (ownsRow_setCell_below HRW5.out hq5 _) hq5 _) hq5 _) hq5 _))
           rw [<- hu6]
           have HB6 := Lib.hid hb6
           have x7 := (hk6 _ (show w.heap.size + 1 + 1 ≠ w.heap.size + 1 + 1 + 1 by omega)).trans X5.out
           refine hK.out _ _ (HSS.out _ ((hk6 _ (by omega)).trans (HK5.out _ (by omega))) ((hk6 _ hnO.2).trans (HK5.out _ hnO.1))) (fun hNew => ?_)
           clear hK K hHeld hNew
           (try simp only [Act.put, List.setIfInBounds_toArray, List.set_cons_zero, List.set_cons_succ])
           refine wpAnyH_done (by kernel_rfl) ?_ _
           clear hu6 hb6 hk6
           have y0 := blk_cell x7 0
           have y1 := blk_cell x7 1
           have y2 := blk_cell x7 2
           have y3 := blk_cell x7 3
           have y4 := blk_cell x7 4
           have y5 := blk_cell x7 5
           have y6 := blk_cell x7 6
           have z0 := blk_cell x6 0
           have z1 := blk_cell x6 1
           have z2 := blk_cell x6 2
           have z3 := blk_cell x6 3
           go_wp2_with fail
           obtain ⟨v1, v2, v3, v4, v5, v6⟩ := told_fields (bits := bits) (sa := sa) (ha := ha) (la := la) HQ.out HF.out HX.out.1 HY.out.1 HR.out HT2.out HR2.out HTW.out HT3.out HR3.out HTH.out HU.out HBB.out HTB.out HNL.out HU4.out HUP.out HCH.out
           have hrow := rows_of_own (enc := mrkV) (fun _ => rfl) r6.out
           have hmk : (toldT p m sa ha la bits).marks = (List.range k).map (tellI p m ha la bits) := by rw [told_marks, <- HU5.out.1, <- HU5.out.2, <- HNK.out]
           exact bodyPost_ret (v := .tuple #[.agg #[.int .i64 NL, .int .i64 ch, .int .i64 b1, .int .i64 b2, .int .i64 b3, .int .i64 b4, .slice mo k mc], mkwV m]) (by simp [results, Tryz.results18, go_sem, y0, y1, y2, y3, y4, y5, y6, z0, z1, z2, z3]) rfl ⟨⟨m, .slice mo k mc, HM.out, by rw [v1, v2, v3, v4, v5, v6], by rw [hmk]; exact hrow⟩, HB6.out⟩
       refine (turn_any la _ 4 _ (H4.out.later HB3.out)).mono ?_
       rintro e w11 ⟨rfl, rfl⟩
       rw [<- hu4]
       have hd0 : turnN la 4 % 3 = t4 := by rw [<- hu4, ht4]
       have c1 := blk_cell HC7.out 1
       have f1 := blk_free HC7.out 1
       have FN := Lib.hid (fine_of HE.out (makes_ok HM.out) HF.out)
       obtain ⟨D, hD⟩ : ∃ D, D = fdsB f.folds := ⟨_, rfl⟩
       have hback : bytesF D = f.folds := by rw [hD]; exact FN.out.back
       have hD1 : 1 <= D.length := by rw [hD]; unfold fdsB; simp; exact FN.out.len1
       obtain ⟨kl, hkl, cl, hcl, hlast⟩ := bytesF_last hD1
       rw [hback] at hkl hlast
       rw [hD, <- hup] at hcl
       have hzs : (⟨f.folds.toArray⟩ : ByteArray).size = kl + 1 := by rw [size_bytes, hkl]
       have hkl4 : kl < 4 := by have := FN.out.len4; omega
       obtain ⟨bs, hbs⟩ : ∃ bs, bs = f.folds := ⟨_, rfl⟩
       rw [<- hbs] at hzs hlast J ⊢
       clear hD hback hD1 hkl hbs FN hd0 hu4 hup ht4 qf j1 i0 hub
       by_cases ht0 : 0 < t4
       · cases up with
         | true =>
           go_wp2_with fail
           refine J _ _ _ rfl rfl ((HB7.out.setCell HOB.out _).setCell HOB.out _) ?_
           rw [if_pos ht0]
           exact blk_set (blk_set HC7.out 1 _) 1 _
         | false =>
           go_wp2_with fail
           refine J _ _ _ rfl rfl (HB7.out.setCell HOB.out _) ?_
           rw [if_pos ht0]
           exact blk_set HC7.out 1 _
       · obtain rfl : t4 = 0 := by omega
         go_wp2_with fail
         refine J _ _ _ rfl rfl HB7.out ?_
         rw [if_neg ht0]
         exact HC7.out
     | ret => exact hR.elim
     | exit id => exact hR.elim
     | goto t => exact hR.elim
     | panic ch => exact hR.elim
     | outgrown => exact hR.elim
    case reg7 =>
     have s3 : w9.drew.cell? ⟨w.heap.size + 1, 3, none⟩ = some (.slice a6 n6 cap6) := blk_cell (blk_drew Y2.out) 3
     have hbd : Below w.heap.size w w9.drew := Below.drew HB3.out
     refine wp_region_held_drew (S := fun u => Hid (Below w.heap.size w u) /\ u.cell? ⟨w.heap.size + 1, 3, none⟩ = some (.slice a6 n6 cap6)) (by kernel_rfl) ⟨Lib.hid hbd, s3⟩ (fun hHeld => ?_)
     refine wpAnyH_take (i := 0) (v := ?_) rfl (by kernel_rfl) (by kernel_rfl) (by kernel_rfl) (fun _ _ _ h => h) (Or.inl ⟨by rfl, ?_⟩) (by assumption) ?_
     rotate_left
     · (intro w hSw; (try dsimp only at hSw); (try simp only [List.getElem_toArray, List.getElem_cons_zero, List.getElem_cons_succ]); go_simp; (try with_reducible rfl))
     (try simp only [List.getElem_toArray, List.getElem_cons_zero, List.getElem_cons_succ, Act.put, List.setIfInBounds_toArray, List.set_cons_zero, List.set_cons_succ])
     refine wpAnyH_take (i := 1) (v := ?_) rfl (by kernel_rfl) (by kernel_rfl) (by kernel_rfl) (fun _ _ _ h => h) (Or.inl ⟨by rfl, ?_⟩) (by assumption) ?_
     rotate_left
     · (intro w hSw; (try dsimp only at hSw); (try simp only [List.getElem_toArray, List.getElem_cons_zero, List.getElem_cons_succ]); go_simp; (try with_reducible rfl))
     (try simp only [List.getElem_toArray, List.getElem_cons_zero, List.getElem_cons_succ, Act.put, List.setIfInBounds_toArray, List.set_cons_zero, List.set_cons_succ])
     refine wpAnyH_take (i := 2) (v := ?_) rfl (by kernel_rfl) (by kernel_rfl) (by kernel_rfl) (fun _ _ _ h => h) (Or.inl ⟨by rfl, ?_⟩) (by assumption) ?_
     rotate_left
     · (intro w hSw; (try dsimp only at hSw); (try simp only [List.getElem_toArray, List.getElem_cons_zero, List.getElem_cons_succ]); go_simp; (try with_reducible rfl))
     (try simp only [List.getElem_toArray, List.getElem_cons_zero, List.getElem_cons_succ, Act.put, List.setIfInBounds_toArray, List.set_cons_zero, List.set_cons_succ])
     refine wpAnyH_take (i := 3) (v := ?_) rfl (by kernel_rfl) (by kernel_rfl) (by kernel_rfl) (fun _ _ _ h => h) (Or.inl ⟨by rfl, ?_⟩) (by assumption) ?_
     rotate_left
     · (intro w hSw; (try dsimp only at hSw); (try simp only [List.getElem_toArray, List.getElem_cons_zero, List.getElem_cons_succ]); go_simp; (try with_reducible rfl))
     (try simp only [List.getElem_toArray, List.getElem_cons_zero, List.getElem_cons_succ, Act.put, List.setIfInBounds_toArray, List.set_cons_zero, List.set_cons_succ])
     refine wpAnyH_take (i := 4) (v := ?_) rfl (by kernel_rfl) (by kernel_rfl) (by kernel_rfl) (fun _ _ _ h => h) (Or.inl ⟨by rfl, ?_⟩) (by assumption) ?_
     rotate_left
     · (intro w hSw; (try dsimp only at hSw); (try simp only [List.getElem_toArray, List.getElem_cons_zero, List.getElem_cons_succ]); go_simp; (try with_reducible rfl))
     (try simp only [List.getElem_toArray, List.getElem_cons_zero, List.getElem_cons_succ, Act.put, List.setIfInBounds_toArray, List.set_cons_zero, List.set_cons_succ])
     refine anyH_takeCall (i := 5) (v := .int .i64 (u0 : Int)) rfl rfl (by kernel_rfl) (by kernel_rfl) (by kernel_rfl) (fun _ _ _ h => h) ?_ (by assumption) ?_
     · refine ⟨49, #[.slice a6 n6 cap6, .int .i64 ((0 : Nat) : Int)], fun u => ?_, fun u hu => by rw [HU.out.1.1]; exact turn_any la _ 0 u (H4.out.later hu.1.out)⟩
       first
       | rfl
       | (go_simp; done)
       | (simp [execOp, resolve, go_sem]; done)
       | fail "call"
     (try simp only [List.getElem_toArray, List.getElem_cons_zero, List.getElem_cons_succ, Act.put, List.setIfInBounds_toArray, List.set_cons_zero, List.set_cons_succ])
     refine wpAnyH_take (i := 6) (v := ?_) rfl (by kernel_rfl) (by kernel_rfl) (by kernel_rfl) (fun _ _ _ h => h) (Or.inl ⟨by rfl, ?_⟩) (by assumption) ?_
     rotate_left
     · (intro w hSw; (try dsimp only at hSw); (try simp only [List.getElem_toArray, List.getElem_cons_zero, List.getElem_cons_succ]); go_simp; (try with_reducible rfl))
     (try simp only [List.getElem_toArray, List.getElem_cons_zero, List.getElem_cons_succ, Act.put, List.setIfInBounds_toArray, List.set_cons_zero, List.set_cons_succ])
     refine wpAnyH_take (i := 7) (v := ?_) rfl (by kernel_rfl) (by kernel_rfl) (by kernel_rfl) (fun _ _ _ h => h) (Or.inl ⟨by rfl, ?_⟩) (by assumption) ?_
     rotate_left
     · (intro w hSw; (try dsimp only at hSw); (try simp only [List.getElem_toArray, List.getElem_cons_zero, List.getElem_cons_succ]); go_simp; (try with_reducible rfl))
     (try simp only [List.getElem_toArray, List.getElem_cons_zero, List.getElem_cons_succ, Act.put, List.setIfInBounds_toArray, List.set_cons_zero, List.set_cons_succ])
     refine wpAnyH_take (i := 8) (v := ?_) rfl (by kernel_rfl) (by kernel_rfl) (by kernel_rfl) (fun _ _ _ h => h) (Or.inl ⟨by rfl, ?_⟩) (by assumption) ?_
     rotate_left
     · (intro w hSw; (try dsimp only at hSw); (try simp only [List.getElem_toArray, List.getElem_cons_zero, List.getElem_cons_succ]); go_simp; (try with_reducible rfl))
     (try simp only [List.getElem_toArray, List.getElem_cons_zero, List.getElem_cons_succ, Act.put, List.setIfInBounds_toArray, List.set_cons_zero, List.set_cons_succ])
     refine wpAnyH_take (i := 9) (v := ?_) rfl (by kernel_rfl) (by kernel_rfl) (by kernel_rfl) (fun _ _ _ h => h) (Or.inl ⟨by rfl, ?_⟩) (by assumption) ?_
     rotate_left
     · (intro w hSw; (try dsimp only at hSw); (try simp only [List.getElem_toArray, List.getElem_cons_zero, List.getElem_cons_succ]); go_simp; (try with_reducible rfl))
     (try simp only [List.getElem_toArray, List.getElem_cons_zero, List.getElem_cons_succ, Act.put, List.setIfInBounds_toArray, List.set_cons_zero, List.set_cons_succ])
     refine wpAnyH_take (i := 10) (v := ?_) rfl (by kernel_rfl) (by kernel_rfl) (by kernel_rfl) (fun _ _ _ h => h) (Or.inl ⟨by rfl, ?_⟩) (by assumption) ?_
     rotate_left
     · (intro w hSw; (try dsimp only at hSw); (try simp only [List.getElem_toArray, List.getElem_cons_zero, List.getElem_cons_succ]); go_simp; (try with_reducible rfl))
     (try simp only [List.getElem_toArray, List.getElem_cons_zero, List.getElem_cons_succ, Act.put, List.setIfInBounds_toArray, List.set_cons_zero, List.set_cons_succ])
     refine wpAnyH_take (i := 11) (v := ?_) rfl (by kernel_rfl) (by kernel_rfl) (by kernel_rfl) (fun _ _ _ h => h) (Or.inl ⟨by rfl, ?_⟩) (by assumption) ?_
     rotate_left
     · (intro w hSw; (try dsimp only at hSw); (try simp only [List.getElem_toArray, List.getElem_cons_zero, List.getElem_cons_succ]); go_simp; (try with_reducible rfl))
     (try simp only [List.getElem_toArray, List.getElem_cons_zero, List.getElem_cons_succ, Act.put, List.setIfInBounds_toArray, List.set_cons_zero, List.set_cons_succ])
     refine anyH_takeCall (i := 12) (v := .int .i64 (u1 : Int)) rfl rfl (by kernel_rfl) (by kernel_rfl) (by kernel_rfl) (fun _ _ _ h => h) ?_ (by assumption) ?_
     · refine ⟨49, #[.slice a6 n6 cap6, .int .i64 ((1 : Nat) : Int)], fun u => ?_, fun u hu => by rw [HU.out.1.2]; exact turn_any la _ 1 u (H4.out.later hu.1.out)⟩
       first
       | rfl
       | (go_simp; done)
       | (simp [execOp, resolve, go_sem]; done)
       | fail "call"
     (try simp only [List.getElem_toArray, List.getElem_cons_zero, List.getElem_cons_succ, Act.put, List.setIfInBounds_toArray, List.set_cons_zero, List.set_cons_succ])
     refine wpAnyH_take (i := 13) (v := ?_) rfl (by kernel_rfl) (by kernel_rfl) (by kernel_rfl) (fun _ _ _ h => h) (Or.inl ⟨by rfl, ?_⟩) (by assumption) ?_
     rotate_left
     · (intro w hSw; (try dsimp only at hSw); (try simp only [List.getElem_toArray, List.getElem_cons_zero, List.getElem_cons_succ]); go_simp; (try with_reducible rfl))
     (try simp only [List.getElem_toArray, List.getElem_cons_zero, List.getElem_cons_succ, Act.put, List.setIfInBounds_toArray, List.set_cons_zero, List.set_cons_succ])
     refine wpAnyH_take (i := 14) (v := ?_) rfl (by kernel_rfl) (by kernel_rfl) (by kernel_rfl) (fun _ _ _ h => h) (Or.inl ⟨by rfl, ?_⟩) (by assumption) ?_
     rotate_left
     · (intro w hSw; (try dsimp only at hSw); (try simp only [List.getElem_toArray, List.getElem_cons_zero, List.getElem_cons_succ]); go_simp; (try with_reducible rfl))
     (try simp only [List.getElem_toArray, List.getElem_cons_zero, List.getElem_cons_succ, Act.put, List.setIfInBounds_toArray, List.set_cons_zero, List.set_cons_succ])
     refine wpAnyH_take (i := 15) (v := ?_) rfl (by kernel_rfl) (by kernel_rfl) (by kernel_rfl) (fun _ _ _ h => h) (Or.inl ⟨by rfl, ?_⟩) (by assumption) ?_
     rotate_left
     · (intro w hSw; (try dsimp only at hSw); (try simp only [List.getElem_toArray, List.getElem_cons_zero, List.getElem_cons_succ]); go_simp; (try with_reducible rfl))
     (try simp only [List.getElem_toArray, List.getElem_cons_zero, List.getElem_cons_succ, Act.put, List.setIfInBounds_toArray, List.set_cons_zero, List.set_cons_succ])
     have HWD7 : Hid (Below Z9 w9 w9.drew) := Lib.hid (Below.drew (Below.refl _ _))
     have HZD7 : Hid (w9.drew.heap.size = Z9) := Lib.hid HZ9.out
     have HS7 := Lib.hid s3
     have HBD7 := Lib.hid hbd
     have HZL : Hid (w.heap.size + 2 <= Z9) := Lib.hid (by have h := blk_lt Y2.out; have h2 := HZ9.out; have h3 := blk_lt Y3.out; omega)
     clear s3 hbd
     generalize w9.drew = wd at hHeld HWD7 HZD7 HS7 HBD7 ⊢
     refine wpAnyH_take (i := 17) (v := ?_) rfl (by kernel_rfl) (by kernel_rfl) (by kernel_rfl) (fun _ _ _ h => h) (Or.inl ⟨by rfl, ?_⟩) (by assumption) ?_
     rotate_left
     · (intro w hSw; (try dsimp only at hSw); (try simp only [List.getElem_toArray, List.getElem_cons_zero, List.getElem_cons_succ]); go_simp; (try with_reducible rfl))
     (try simp only [List.getElem_toArray, List.getElem_cons_zero, List.getElem_cons_succ, Act.put, List.setIfInBounds_toArray, List.set_cons_zero, List.set_cons_succ])
     refine wpAnyH_take (i := 18) (v := ?_) rfl (by kernel_rfl) (by kernel_rfl) (by kernel_rfl) (fun _ _ _ h => h) (Or.inl ⟨by rfl, ?_⟩) (by assumption) ?_
     rotate_left
     · (intro w hSw; (try dsimp only at hSw); (try simp only [List.getElem_toArray, List.getElem_cons_zero, List.getElem_cons_succ]); go_simp; (try with_reducible rfl))
     (try simp only [List.getElem_toArray, List.getElem_cons_zero, List.getElem_cons_succ, Act.put, List.setIfInBounds_toArray, List.set_cons_zero, List.set_cons_succ])
     refine wpAnyH_take (i := 19) (v := ?_) rfl (by kernel_rfl) (by kernel_rfl) (by kernel_rfl) (fun _ _ _ h => h) (Or.inl ⟨by rfl, ?_⟩) (by assumption) ?_
     rotate_left
     · (intro w hSw; (try dsimp only at hSw); (try simp only [List.getElem_toArray, List.getElem_cons_zero, List.getElem_cons_succ]); go_simp; (try with_reducible rfl))
     (try simp only [List.getElem_toArray, List.getElem_cons_zero, List.getElem_cons_succ, Act.put, List.setIfInBounds_toArray, List.set_cons_zero, List.set_cons_succ])
     refine wpAnyH_take (i := 24) (v := ?_) rfl (by kernel_rfl) (by kernel_rfl) (by kernel_rfl) (fun _ _ _ h => h) (Or.inl ⟨by rfl, ?_⟩) (by assumption) ?_
     rotate_left
     · (intro w hSw; (try dsimp only at hSw); (try simp only [List.getElem_toArray, List.getElem_cons_zero, List.getElem_cons_succ]); go_simp; (try with_reducible rfl))
     (try simp only [List.getElem_toArray, List.getElem_cons_zero, List.getElem_cons_succ, Act.put, List.setIfInBounds_toArray, List.set_cons_zero, List.set_cons_succ])
     refine wpAnyH_take (i := 25) (v := ?_) rfl (by kernel_rfl) (by kernel_rfl) (by kernel_rfl) (fun _ _ _ h => h) (Or.inl ⟨by rfl, ?_⟩) (by assumption) ?_
     rotate_left
     · (intro w hSw; (try dsimp only at hSw); (try simp only [List.getElem_toArray, List.getElem_cons_zero, List.getElem_cons_succ]); go_simp; (try with_reducible rfl))
     (try simp only [List.getElem_toArray, List.getElem_cons_zero, List.getElem_cons_succ, Act.put, List.setIfInBounds_toArray, List.set_cons_zero, List.set_cons_succ])
     refine wpAnyH_take (i := 26) (v := ?_) rfl (by kernel_rfl) (by kernel_rfl) (by kernel_rfl) (fun _ _ _ h => h) (Or.inl ⟨by rfl, ?_⟩) (by assumption) ?_
     rotate_left
     · (intro w hSw; (try dsimp only at hSw); (try simp only [List.getElem_toArray, List.getElem_cons_zero, List.getElem_cons_succ]); go_simp; (try with_reducible rfl))
     (try simp only [List.getElem_toArray, List.getElem_cons_zero, List.getElem_cons_succ, Act.put, List.setIfInBounds_toArray, List.set_cons_zero, List.set_cons_succ])
     have HB := Lib.hid (Below.refl Z9 wd)
     refine wpAnyH_ready (rs := [16, 33]) (by kernel_rfl) (by simp) ?_
     refine AllReadyH.cons rfl (fun K hK => ?_) ?_
     · skip
       go_simp
       refine (span2_any _ _ wd).mono ?_
       rintro e v1 ⟨rfl, hsp⟩
       have HSP := Lib.hid hsp
       have HB := Lib.hid (HB.out.trans (hsp.mono (show Z9 <= (wd).heap.size by have := HB.out.size; have := HZD7.out; omega)))
       clear hsp
       refine hK.out _ _ ?_ (fun hNew => ?_)
       · exact ⟨Lib.hid (HBD7.out.trans ((HB.out).mono (show w.heap.size <= Z9 by have := HZL.out; omega))), (World.cell?_of_block ((HB.out).block _ (show w.heap.size + 1 < Z9 by have := HZL.out; omega))).trans HS7.out⟩
       clear hK K hHeld
       have hHeld := hNew
       clear hNew
       (try simp only [List.getElem_toArray, List.getElem_cons_zero, List.getElem_cons_succ, Act.put, List.setIfInBounds_toArray, List.set_cons_zero, List.set_cons_succ])
       refine anyH_takeCall (i := 20) (v := .int .i64 (u2 : Int)) rfl rfl (by kernel_rfl) (by kernel_rfl) (by kernel_rfl) (fun _ _ _ h => h) ?_ (by assumption) ?_
       · refine ⟨49, #[.slice a6 n6 cap6, .int .i64 ((2 : Nat) : Int)], fun u => ?_, fun u hu => by rw [HU.out.2.1]; exact turn_any la _ 2 u (H4.out.later hu.1.out)⟩
         first
         | rfl
         | (go_simp; done)
         | (simp [execOp, resolve, go_sem]; done)
         | fail "call"
       (try simp only [List.getElem_toArray, List.getElem_cons_zero, List.getElem_cons_succ, Act.put, List.setIfInBounds_toArray, List.set_cons_zero, List.set_cons_succ])
       refine wpAnyH_take (i := 21) (v := ?_) rfl (by kernel_rfl) (by kernel_rfl) (by kernel_rfl) (fun _ _ _ h => h) (Or.inl ⟨by rfl, ?_⟩) (by assumption) ?_
       rotate_left
       · (intro w hSw; (try dsimp only at hSw); (try simp only [List.getElem_toArray, List.getElem_cons_zero, List.getElem_cons_succ]); go_simp; (try with_reducible rfl))
       (try simp only [List.getElem_toArray, List.getElem_cons_zero, List.getElem_cons_succ, Act.put, List.setIfInBounds_toArray, List.set_cons_zero, List.set_cons_succ])
       refine wpAnyH_take (i := 22) (v := ?_) rfl (by kernel_rfl) (by kernel_rfl) (by kernel_rfl) (fun _ _ _ h => h) (Or.inl ⟨by rfl, ?_⟩) (by assumption) ?_
       rotate_left
       · (intro w hSw; (try dsimp only at hSw); (try simp only [List.getElem_toArray, List.getElem_cons_zero, List.getElem_cons_succ]); go_simp; (try with_reducible rfl))
       (try simp only [List.getElem_toArray, List.getElem_cons_zero, List.getElem_cons_succ, Act.put, List.setIfInBounds_toArray, List.set_cons_zero, List.set_cons_succ])
       refine wpAnyH_take (i := 23) (v := ?_) rfl (by kernel_rfl) (by kernel_rfl) (by kernel_rfl) (fun _ _ _ h => h) (Or.inl ⟨by rfl, ?_⟩) (by assumption) ?_
       rotate_left
       · (intro w hSw; (try dsimp only at hSw); (try simp only [List.getElem_toArray, List.getElem_cons_zero, List.getElem_cons_succ]); go_simp; (try with_reducible rfl))
       (try simp only [List.getElem_toArray, List.getElem_cons_zero, List.getElem_cons_succ, Act.put, List.setIfInBounds_toArray, List.set_cons_zero, List.set_cons_succ])
       refine anyH_takeCall (i := 27) (v := .int .i64 (u3 : Int)) rfl rfl (by kernel_rfl) (by kernel_rfl) (by kernel_rfl) (fun _ _ _ h => h) ?_ (by assumption) ?_
       · refine ⟨49, #[.slice a6 n6 cap6, .int .i64 ((3 : Nat) : Int)], fun u => ?_, fun u hu => by rw [HU.out.2.2]; exact turn_any la _ 3 u (H4.out.later hu.1.out)⟩
         first
         | rfl
         | (go_simp; done)
         | (simp [execOp, resolve, go_sem]; done)
         | fail "call"
       (try simp only [List.getElem_toArray, List.getElem_cons_zero, List.getElem_cons_succ, Act.put, List.setIfInBounds_toArray, List.set_cons_zero, List.set_cons_succ])
       refine wpAnyH_take (i := 28) (v := ?_) rfl (by kernel_rfl) (by kernel_rfl) (by kernel_rfl) (fun _ _ _ h => h) (Or.inl ⟨by rfl, ?_⟩) (by assumption) ?_
       rotate_left
       · (intro w hSw; (try dsimp only at hSw); (try simp only [List.getElem_toArray, List.getElem_cons_zero, List.getElem_cons_succ]); go_simp; (try with_reducible rfl))
       (try simp only [List.getElem_toArray, List.getElem_cons_zero, List.getElem_cons_succ, Act.put, List.setIfInBounds_toArray, List.set_cons_zero, List.set_cons_succ])
       refine wpAnyH_take (i := 29) (v := ?_) rfl (by kernel_rfl) (by kernel_rfl) (by kernel_rfl) (fun _ _ _ h => h) (Or.inl ⟨by rfl, ?_⟩) (by assumption) ?_
       rotate_left
       · (intro w hSw; (try dsimp only at hSw); (try simp only [List.getElem_toArray, List.getElem_cons_zero, List.getElem_cons_succ]); go_simp; (try with_reducible rfl))
       (try simp only [List.getElem_toArray, List.getElem_cons_zero, List.getElem_cons_succ, Act.put, List.setIfInBounds_toArray, List.set_cons_zero, List.set_cons_succ])
       refine wpAnyH_take (i := 30) (v := ?_) rfl (by kernel_rfl) (by kernel_rfl) (by kernel_rfl) (fun _ _ _ h => h) (Or.inl ⟨by rfl, ?_⟩) (by assumption) ?_
       rotate_left
       · (intro w hSw; (try dsimp only at hSw); (try simp only [List.getElem_toArray, List.getElem_cons_zero, List.getElem_cons_succ]); go_simp; (try with_reducible rfl))
       (try simp only [List.getElem_toArray, List.getElem_cons_zero, List.getElem_cons_succ, Act.put, List.setIfInBounds_toArray, List.set_cons_zero, List.set_cons_succ])
       refine wpAnyH_ready (rs := [31, 33]) (by kernel_rfl) (by simp) ?_
       refine AllReadyH.cons rfl (fun K hK => ?_) ?_
       · skip
         go_simp
         refine (span2_any _ _ v1).mono ?_
         rintro e v2 ⟨rfl, hsp⟩
         have HSP := Lib.hid hsp
         have HB := Lib.hid (HB.out.trans (hsp.mono (show Z9 <= (v1).heap.size by have := HB.out.size; have := HZD7.out; omega)))
         clear hsp
         refine hK.out _ _ ?_ (fun hNew => ?_)
         · exact ⟨Lib.hid (HBD7.out.trans ((HB.out).mono (show w.heap.size <= Z9 by have := HZL.out; omega))), (World.cell?_of_block ((HB.out).block _ (show w.heap.size + 1 < Z9 by have := HZL.out; omega))).trans HS7.out⟩
         clear hK K hHeld
         have hHeld := hNew
         clear hNew
         (try simp only [List.getElem_toArray, List.getElem_cons_zero, List.getElem_cons_succ, Act.put, List.setIfInBounds_toArray, List.set_cons_zero, List.set_cons_succ])
         refine wpAnyH_take (i := 32) (v := ?_) rfl (by kernel_rfl) (by kernel_rfl) (by kernel_rfl) (fun _ _ _ h => h) (Or.inl ⟨by rfl, ?_⟩) (by assumption) ?_
         rotate_left
         · (intro w hSw; (try dsimp only at hSw); (try simp only [List.getElem_toArray, List.getElem_cons_zero, List.getElem_cons_succ]); go_simp; (try with_reducible rfl))
         (try simp only [List.getElem_toArray, List.getElem_cons_zero, List.getElem_cons_succ, Act.put, List.setIfInBounds_toArray, List.set_cons_zero, List.set_cons_succ])
         refine wpAnyH_ready (rs := [33]) (by kernel_rfl) (by simp) ?_
         refine AllReadyH.cons rfl (fun K hK => ?_) AllReadyH.nil
         go_simp
         obtain ⟨v3, hu2⟩ : ∃ v, v = (v2).alloc (.cells #[.int .i64 0, .int .i64 0, .int .i64 0, .int .i64 0, .int .i64 0, .int .i64 0, .slice none 0 0] 30) := ⟨_, rfl⟩
         have hzu : Z9 <= (v2).heap.size := by have := HB.out.size; have := HZD7.out; omega
         have hbu : Below (v2).heap.size v2 v3 := by rw [hu2]; exact (Below.refl _ _).alloc (Nat.le_refl _) _
         have c5 : (v3).heap[(v2).heap.size]? = some (.cells #[.int .i64 0, .int .i64 0, .int .i64 0, .int .i64 0, .int .i64 0, .int .i64 0, .slice none 0 0] 30 (0, 0)) := by rw [hu2]; exact World.alloc_heap_new _ _
         rw [<- hu2]
         have HB := Lib.hid (HB.out.trans (hbu.mono hzu))
         generalize hO : (v2).heap.size = B at hzu c5 ⊢
         have C5 := Lib.hid c5
         have HOB := Lib.hid hzu
         clear hu2 hbu c5 hzu hO
         refine hK.out _ _ ?_ (fun hNew => ?_)
         · exact ⟨Lib.hid (HBD7.out.trans ((HB.out).mono (show w.heap.size <= Z9 by have := HZL.out; omega))), (World.cell?_of_block ((HB.out).block _ (show w.heap.size + 1 < Z9 by have := HZL.out; omega))).trans HS7.out⟩
         clear hK K hHeld
         have hHeld := hNew
         clear hNew
         (try simp only [List.getElem_toArray, List.getElem_cons_zero, List.getElem_cons_succ, Act.put, List.setIfInBounds_toArray, List.set_cons_zero, List.set_cons_succ])
         refine wpAnyH_ready (rs := [34]) (by kernel_rfl) (by simp) ?_
         refine AllReadyH.cons rfl (fun K hK => ?_) AllReadyH.nil
         have c0 := blk_cell C5.out 0
         have c1 := blk_cell C5.out 1
         have c2 := blk_cell C5.out 2
         have c3 := blk_cell C5.out 3
         have c4 := blk_cell C5.out 4
         have c5 := blk_cell C5.out 5
         have c6 := blk_cell C5.out 6
         have f0 := blk_free C5.out 0
         have f1 := blk_free C5.out 1
         have f2 := blk_free C5.out 2
         have f3 := blk_free C5.out 3
         have f4 := blk_free C5.out 4
         have f5 := blk_free C5.out 5
         have f6 := blk_free C5.out 6
         go_simp
         obtain ⟨u9, hu9⟩ : ∃ v, v = ((((((((v3).setCell ⟨B, 0, none⟩ (.int .i64 (leavesW m f).length)).setCell ⟨B, 1, none⟩ (.int .i64 0)).setCell ⟨B, 2, none⟩ (.int .i64 (maxI 0 (IntKind.i64.wrap (tw - (u0 : Int).tmod 9))))).setCell ⟨B, 3, none⟩ (.int .i64 (minI 2000 (IntKind.i64.wrap (tw + (u1 : Int).tmod 9))))).setCell ⟨B, 4, none⟩ (.int .i64 (maxI 0 (IntKind.i64.wrap (th - (u2 : Int).tmod 9))))).setCell ⟨B, 5, none⟩ (.int .i64 (minI 2000 (IntKind.i64.wrap (th + (u3 : Int).tmod 9))))).setCell ⟨B, 6, none⟩ (.slice none 0 0)) := ⟨_, rfl⟩
         have hb9 : Below Z9 wd u9 := by rw [hu9]; exact ((((((HB.out.setCell HOB.out _).setCell HOB.out _).setCell HOB.out _).setCell HOB.out _).setCell HOB.out _).setCell HOB.out _).setCell HOB.out _
         have c9 : u9.heap[B]? = some (.cells #[.int .i64 (leavesW m f).length, .int .i64 0, .int .i64 (maxI 0 (IntKind.i64.wrap (tw - (u0 : Int).tmod 9))), .int .i64 (minI 2000 (IntKind.i64.wrap (tw + (u1 : Int).tmod 9))), .int .i64 (maxI 0 (IntKind.i64.wrap (th - (u2 : Int).tmod 9))), .int .i64 (minI 2000 (IntKind.i64.wrap (th + (u3 : Int).tmod 9))), .slice none 0 0] 30 (0, 0)) := by rw [hu9]; exact blk_set (blk_set (blk_set (blk_set (blk_set (blk_set (blk_set C5.out 0 _) 1 _) 2 _) 3 _) 4 _) 5 _) 6 _
         rw [<- hu9]
         have HB9 := Lib.hid hb9
         have C9 := Lib.hid c9
         clear hu9 hb9 c9 c0 c1 c2 c3 c4 c5 c6 f0 f1 f2 f3 f4 f5 f6
         refine hK.out _ _ ?_ (fun hNew => ?_)
         · exact ⟨Lib.hid (HBD7.out.trans ((HB9.out).mono (show w.heap.size <= Z9 by have := HZL.out; omega))), (World.cell?_of_block ((HB9.out).block _ (show w.heap.size + 1 < Z9 by have := HZL.out; omega))).trans HS7.out⟩
         clear hK K hHeld
         have hHeld := hNew
         clear hNew
         (try simp only [List.getElem_toArray, List.getElem_cons_zero, List.getElem_cons_succ, Act.put, List.setIfInBounds_toArray, List.set_cons_zero, List.set_cons_succ])
         refine wpAnyH_done (by kernel_rfl) ?_ _
         exact ⟨B, rfl, HOB.out, Lib.hid (HWD7.out.trans HB9.out), C9⟩
       · refine AllReadyH.cons rfl (fun K hK => ?_) AllReadyH.nil
         go_simp
         obtain ⟨v2, hu2⟩ : ∃ v, v = (v1).alloc (.cells #[.int .i64 0, .int .i64 0, .int .i64 0, .int .i64 0, .int .i64 0, .int .i64 0, .slice none 0 0] 30) := ⟨_, rfl⟩
         have hzu : Z9 <= (v1).heap.size := by have := HB.out.size; have := HZD7.out; omega
         have hbu : Below (v1).heap.size v1 v2 := by rw [hu2]; exact (Below.refl _ _).alloc (Nat.le_refl _) _
         have c5 : (v2).heap[(v1).heap.size]? = some (.cells #[.int .i64 0, .int .i64 0, .int .i64 0, .int .i64 0, .int .i64 0, .int .i64 0, .slice none 0 0] 30 (0, 0)) := by rw [hu2]; exact World.alloc_heap_new _ _
         rw [<- hu2]
         have HB := Lib.hid (HB.out.trans (hbu.mono hzu))
         generalize hO : (v1).heap.size = B at hzu c5 ⊢
         have C5 := Lib.hid c5
         have HOB := Lib.hid hzu
         clear hu2 hbu c5 hzu hO
         refine hK.out _ _ ?_ (fun hNew => ?_)
         · exact ⟨Lib.hid (HBD7.out.trans ((HB.out).mono (show w.heap.size <= Z9 by have := HZL.out; omega))), (World.cell?_of_block ((HB.out).block _ (show w.heap.size + 1 < Z9 by have := HZL.out; omega))).trans HS7.out⟩
         clear hK K hHeld
         have hHeld := hNew
         clear hNew
         (try simp only [List.getElem_toArray, List.getElem_cons_zero, List.getElem_cons_succ, Act.put, List.setIfInBounds_toArray, List.set_cons_zero, List.set_cons_succ])
         refine wpAnyH_ready (rs := [31]) (by kernel_rfl) (by simp) ?_
         refine AllReadyH.cons rfl (fun K hK => ?_) AllReadyH.nil
         go_simp
         refine (span2_any _ _ v2).mono ?_
         rintro e v3 ⟨rfl, hsp⟩
         have HSP := Lib.hid hsp
         have HB := Lib.hid (HB.out.trans (hsp.mono (show Z9 <= (v2).heap.size by have := HB.out.size; have := HZD7.out; omega)))
         clear hsp
         refine hK.out _ _ ?_ (fun hNew => ?_)
         · exact ⟨Lib.hid (HBD7.out.trans ((HB.out).mono (show w.heap.size <= Z9 by have := HZL.out; omega))), (World.cell?_of_block ((HB.out).block _ (show w.heap.size + 1 < Z9 by have := HZL.out; omega))).trans HS7.out⟩
         clear hK K hHeld
         have hHeld := hNew
         clear hNew
         (try simp only [List.getElem_toArray, List.getElem_cons_zero, List.getElem_cons_succ, Act.put, List.setIfInBounds_toArray, List.set_cons_zero, List.set_cons_succ])
         have C5 := Lib.hid (blk_later HSP.out C5.out)
         refine wpAnyH_take (i := 32) (v := ?_) rfl (by kernel_rfl) (by kernel_rfl) (by kernel_rfl) (fun _ _ _ h => h) (Or.inl ⟨by rfl, ?_⟩) (by assumption) ?_
         rotate_left
         · (intro w hSw; (try dsimp only at hSw); (try simp only [List.getElem_toArray, List.getElem_cons_zero, List.getElem_cons_succ]); go_simp; (try with_reducible rfl))
         (try simp only [List.getElem_toArray, List.getElem_cons_zero, List.getElem_cons_succ, Act.put, List.setIfInBounds_toArray, List.set_cons_zero, List.set_cons_succ])
         refine wpAnyH_ready (rs := [34]) (by kernel_rfl) (by simp) ?_
         refine AllReadyH.cons rfl (fun K hK => ?_) AllReadyH.nil
         have c0 := blk_cell C5.out 0
         have c1 := blk_cell C5.out 1
         have c2 := blk_cell C5.out 2
         have c3 := blk_cell C5.out 3
         have c4 := blk_cell C5.out 4
         have c5 := blk_cell C5.out 5
         have c6 := blk_cell C5.out 6
         have f0 := blk_free C5.out 0
         have f1 := blk_free C5.out 1
         have f2 := blk_free C5.out 2
         have f3 := blk_free C5.out 3
         have f4 := blk_free C5.out 4
         have f5 := blk_free C5.out 5
         have f6 := blk_free C5.out 6
         go_simp
         obtain ⟨u9, hu9⟩ : ∃ v, v = ((((((((v3).setCell ⟨B, 0, none⟩ (.int .i64 (leavesW m f).length)).setCell ⟨B, 1, none⟩ (.int .i64 0)).setCell ⟨B, 2, none⟩ (.int .i64 (maxI 0 (IntKind.i64.wrap (tw - (u0 : Int).tmod 9))))).setCell ⟨B, 3, none⟩ (.int .i64 (minI 2000 (IntKind.i64.wrap (tw + (u1 : Int).tmod 9))))).setCell ⟨B, 4, none⟩ (.int .i64 (maxI 0 (IntKind.i64.wrap (th - (u2 : Int).tmod 9))))).setCell ⟨B, 5, none⟩ (.int .i64 (minI 2000 (IntKind.i64.wrap (th + (u3 : Int).tmod 9))))).setCell ⟨B, 6, none⟩ (.slice none 0 0)) := ⟨_, rfl⟩
         have hb9 : Below Z9 wd u9 := by rw [hu9]; exact ((((((HB.out.setCell HOB.out _).setCell HOB.out _).setCell HOB.out _).setCell HOB.out _).setCell HOB.out _).setCell HOB.out _).setCell HOB.out _
         have c9 : u9.heap[B]? = some (.cells #[.int .i64 (leavesW m f).length, .int .i64 0, .int .i64 (maxI 0 (IntKind.i64.wrap (tw - (u0 : Int).tmod 9))), .int .i64 (minI 2000 (IntKind.i64.wrap (tw + (u1 : Int).tmod 9))), .int .i64 (maxI 0 (IntKind.i64.wrap (th - (u2 : Int).tmod 9))), .int .i64 (minI 2000 (IntKind.i64.wrap (th + (u3 : Int).tmod 9))), .slice none 0 0] 30 (0, 0)) := by rw [hu9]; exact blk_set (blk_set (blk_set (blk_set (blk_set (blk_set (blk_set C5.out 0 _) 1 _) 2 _) 3 _) 4 _) 5 _) 6 _
         rw [<- hu9]
         have HB9 := Lib.hid hb9
         have C9 := Lib.hid c9
         clear hu9 hb9 c9 c0 c1 c2 c3 c4 c5 c6 f0 f1 f2 f3 f4 f5 f6
         refine hK.out _ _ ?_ (fun hNew => ?_)
         · exact ⟨Lib.hid (HBD7.out.trans ((HB9.out).mono (show w.heap.size <= Z9 by have := HZL.out; omega))), (World.cell?_of_block ((HB9.out).block _ (show w.heap.size + 1 < Z9 by have := HZL.out; omega))).trans HS7.out⟩
         clear hK K hHeld
         have hHeld := hNew
         clear hNew
         (try simp only [List.getElem_toArray, List.getElem_cons_zero, List.getElem_cons_succ, Act.put, List.setIfInBounds_toArray, List.set_cons_zero, List.set_cons_succ])
         refine wpAnyH_done (by kernel_rfl) ?_ _
         exact ⟨B, rfl, HOB.out, Lib.hid (HWD7.out.trans HB9.out), C9⟩
     · refine AllReadyH.cons rfl (fun K hK => ?_) AllReadyH.nil
       go_simp
       obtain ⟨v1, hu2⟩ : ∃ v, v = (wd).alloc (.cells #[.int .i64 0, .int .i64 0, .int .i64 0, .int .i64 0, .int .i64 0, .int .i64 0, .slice none 0 0] 30) := ⟨_, rfl⟩
       have hzu : Z9 <= (wd).heap.size := by have := HB.out.size; have := HZD7.out; omega
       have hbu : Below (wd).heap.size wd v1 := by rw [hu2]; exact (Below.refl _ _).alloc (Nat.le_refl _) _
       have c5 : (v1).heap[(wd).heap.size]? = some (.cells #[.int .i64 0, .int .i64 0, .int .i64 0, .int .i64 0, .int .i64 0, .int .i64 0, .slice none 0 0] 30 (0, 0)) := by rw [hu2]; exact World.alloc_heap_new _ _
       rw [<- hu2]
       have HB := Lib.hid (HB.out.trans (hbu.mono hzu))
       generalize hO : (wd).heap.size = B at hzu c5 ⊢
       have C5 := Lib.hid c5
       have HOB := Lib.hid hzu
       clear hu2 hbu c5 hzu hO
       refine hK.out _ _ ?_ (fun hNew => ?_)
       · exact ⟨Lib.hid (HBD7.out.trans ((HB.out).mono (show w.heap.size <= Z9 by have := HZL.out; omega))), (World.cell?_of_block ((HB.out).block _ (show w.heap.size + 1 < Z9 by have := HZL.out; omega))).trans HS7.out⟩
       clear hK K hHeld
       have hHeld := hNew
       clear hNew
       (try simp only [List.getElem_toArray, List.getElem_cons_zero, List.getElem_cons_succ, Act.put, List.setIfInBounds_toArray, List.set_cons_zero, List.set_cons_succ])
       refine wpAnyH_ready (rs := [16]) (by kernel_rfl) (by simp) ?_
       refine AllReadyH.cons rfl (fun K hK => ?_) AllReadyH.nil
       go_simp
       refine (span2_any _ _ v1).mono ?_
       rintro e v2 ⟨rfl, hsp⟩
       have HSP := Lib.hid hsp
       have HB := Lib.hid (HB.out.trans (hsp.mono (show Z9 <= (v1).heap.size by have := HB.out.size; have := HZD7.out; omega)))
       clear hsp
       refine hK.out _ _ ?_ (fun hNew => ?_)
       · exact ⟨Lib.hid (HBD7.out.trans ((HB.out).mono (show w.heap.size <= Z9 by have := HZL.out; omega))), (World.cell?_of_block ((HB.out).block _ (show w.heap.size + 1 < Z9 by have := HZL.out; omega))).trans HS7.out⟩
       clear hK K hHeld
       have hHeld := hNew
       clear hNew
       (try simp only [List.getElem_toArray, List.getElem_cons_zero, List.getElem_cons_succ, Act.put, List.setIfInBounds_toArray, List.set_cons_zero, List.set_cons_succ])
       have C5 := Lib.hid (blk_later HSP.out C5.out)
       refine anyH_takeCall (i := 20) (v := .int .i64 (u2 : Int)) rfl rfl (by kernel_rfl) (by kernel_rfl) (by kernel_rfl) (fun _ _ _ h => h) ?_ (by assumption) ?_
       · refine ⟨49, #[.slice a6 n6 cap6, .int .i64 ((2 : Nat) : Int)], fun u => ?_, fun u hu => by rw [HU.out.2.1]; exact turn_any la _ 2 u (H4.out.later hu.1.out)⟩
         first
         | rfl
         | (go_simp; done)
         | (simp [execOp, resolve, go_sem]; done)
         | fail "call"
       (try simp only [List.getElem_toArray, List.getElem_cons_zero, List.getElem_cons_succ, Act.put, List.setIfInBounds_toArray, List.set_cons_zero, List.set_cons_succ])
       refine wpAnyH_take (i := 21) (v := ?_) rfl (by kernel_rfl) (by kernel_rfl) (by kernel_rfl) (fun _ _ _ h => h) (Or.inl ⟨by rfl, ?_⟩) (by assumption) ?_
       rotate_left
       · (intro w hSw; (try dsimp only at hSw); (try simp only [List.getElem_toArray, List.getElem_cons_zero, List.getElem_cons_succ]); go_simp; (try with_reducible rfl))
       (try simp only [List.getElem_toArray, List.getElem_cons_zero, List.getElem_cons_succ, Act.put, List.setIfInBounds_toArray, List.set_cons_zero, List.set_cons_succ])
       refine wpAnyH_take (i := 22) (v := ?_) rfl (by kernel_rfl) (by kernel_rfl) (by kernel_rfl) (fun _ _ _ h => h) (Or.inl ⟨by rfl, ?_⟩) (by assumption) ?_
       rotate_left
       · (intro w hSw; (try dsimp only at hSw); (try simp only [List.getElem_toArray, List.getElem_cons_zero, List.getElem_cons_succ]); go_simp; (try with_reducible rfl))
       (try simp only [List.getElem_toArray, List.getElem_cons_zero, List.getElem_cons_succ, Act.put, List.setIfInBounds_toArray, List.set_cons_zero, List.set_cons_succ])
       refine wpAnyH_take (i := 23) (v := ?_) rfl (by kernel_rfl) (by kernel_rfl) (by kernel_rfl) (fun _ _ _ h => h) (Or.inl ⟨by rfl, ?_⟩) (by assumption) ?_
       rotate_left
       · (intro w hSw; (try dsimp only at hSw); (try simp only [List.getElem_toArray, List.getElem_cons_zero, List.getElem_cons_succ]); go_simp; (try with_reducible rfl))
       (try simp only [List.getElem_toArray, List.getElem_cons_zero, List.getElem_cons_succ, Act.put, List.setIfInBounds_toArray, List.set_cons_zero, List.set_cons_succ])
       refine anyH_takeCall (i := 27) (v := .int .i64 (u3 : Int)) rfl rfl (by kernel_rfl) (by kernel_rfl) (by kernel_rfl) (fun _ _ _ h => h) ?_ (by assumption) ?_
       · refine ⟨49, #[.slice a6 n6 cap6, .int .i64 ((3 : Nat) : Int)], fun u => ?_, fun u hu => by rw [HU.out.2.2]; exact turn_any la _ 3 u (H4.out.later hu.1.out)⟩
         first
         | rfl
         | (go_simp; done)
         | (simp [execOp, resolve, go_sem]; done)
         | fail "call"
       (try simp only [List.getElem_toArray, List.getElem_cons_zero, List.getElem_cons_succ, Act.put, List.setIfInBounds_toArray, List.set_cons_zero, List.set_cons_succ])
       refine wpAnyH_take (i := 28) (v := ?_) rfl (by kernel_rfl) (by kernel_rfl) (by kernel_rfl) (fun _ _ _ h => h) (Or.inl ⟨by rfl, ?_⟩) (by assumption) ?_
       rotate_left
       · (intro w hSw; (try dsimp only at hSw); (try simp only [List.getElem_toArray, List.getElem_cons_zero, List.getElem_cons_succ]); go_simp; (try with_reducible rfl))
       (try simp only [List.getElem_toArray, List.getElem_cons_zero, List.getElem_cons_succ, Act.put, List.setIfInBounds_toArray, List.set_cons_zero, List.set_cons_succ])
       refine wpAnyH_take (i := 29) (v := ?_) rfl (by kernel_rfl) (by kernel_rfl) (by kernel_rfl) (fun _ _ _ h => h) (Or.inl ⟨by rfl, ?_⟩) (by assumption) ?_
       rotate_left
       · (intro w hSw; (try dsimp only at hSw); (try simp only [List.getElem_toArray, List.getElem_cons_zero, List.getElem_cons_succ]); go_simp; (try with_reducible rfl))
       (try simp only [List.getElem_toArray, List.getElem_cons_zero, List.getElem_cons_succ, Act.put, List.setIfInBounds_toArray, List.set_cons_zero, List.set_cons_succ])
       refine wpAnyH_take (i := 30) (v := ?_) rfl (by kernel_rfl) (by kernel_rfl) (by kernel_rfl) (fun _ _ _ h => h) (Or.inl ⟨by rfl, ?_⟩) (by assumption) ?_
       rotate_left
       · (intro w hSw; (try dsimp only at hSw); (try simp only [List.getElem_toArray, List.getElem_cons_zero, List.getElem_cons_succ]); go_simp; (try with_reducible rfl))
       (try simp only [List.getElem_toArray, List.getElem_cons_zero, List.getElem_cons_succ, Act.put, List.setIfInBounds_toArray, List.set_cons_zero, List.set_cons_succ])
       refine wpAnyH_ready (rs := [31]) (by kernel_rfl) (by simp) ?_
       refine AllReadyH.cons rfl (fun K hK => ?_) AllReadyH.nil
       go_simp
       refine (span2_any _ _ v2).mono ?_
       rintro e v3 ⟨rfl, hsp⟩
       have HSP := Lib.hid hsp
       have HB := Lib.hid (HB.out.trans (hsp.mono (show Z9 <= (v2).heap.size by have := HB.out.size; have := HZD7.out; omega)))
       clear hsp
       refine hK.out _ _ ?_ (fun hNew => ?_)
       · exact ⟨Lib.hid (HBD7.out.trans ((HB.out).mono (show w.heap.size <= Z9 by have := HZL.out; omega))), (World.cell?_of_block ((HB.out).block _ (show w.heap.size + 1 < Z9 by have := HZL.out; omega))).trans HS7.out⟩
       clear hK K hHeld
       have hHeld := hNew
       clear hNew
       (try simp only [List.getElem_toArray, List.getElem_cons_zero, List.getElem_cons_succ, Act.put, List.setIfInBounds_toArray, List.set_cons_zero, List.set_cons_succ])
       have C5 := Lib.hid (blk_later HSP.out C5.out)
       refine wpAnyH_take (i := 32) (v := ?_) rfl (by kernel_rfl) (by kernel_rfl) (by kernel_rfl) (fun _ _ _ h => h) (Or.inl ⟨by rfl, ?_⟩) (by assumption) ?_
       rotate_left
       · (intro w hSw; (try dsimp only at hSw); (try simp only [List.getElem_toArray, List.getElem_cons_zero, List.getElem_cons_succ]); go_simp; (try with_reducible rfl))
       (try simp only [List.getElem_toArray, List.getElem_cons_zero, List.getElem_cons_succ, Act.put, List.setIfInBounds_toArray, List.set_cons_zero, List.set_cons_succ])
       refine wpAnyH_ready (rs := [34]) (by kernel_rfl) (by simp) ?_
       refine AllReadyH.cons rfl (fun K hK => ?_) AllReadyH.nil
       have c0 := blk_cell C5.out 0
       have c1 := blk_cell C5.out 1
       have c2 := blk_cell C5.out 2
       have c3 := blk_cell C5.out 3
       have c4 := blk_cell C5.out 4
       have c5 := blk_cell C5.out 5
       have c6 := blk_cell C5.out 6
       have f0 := blk_free C5.out 0
       have f1 := blk_free C5.out 1
       have f2 := blk_free C5.out 2
       have f3 := blk_free C5.out 3
       have f4 := blk_free C5.out 4
       have f5 := blk_free C5.out 5
       have f6 := blk_free C5.out 6
       go_simp
       obtain ⟨u9, hu9⟩ : ∃ v, v = ((((((((v3).setCell ⟨B, 0, none⟩ (.int .i64 (leavesW m f).length)).setCell ⟨B, 1, none⟩ (.int .i64 0)).setCell ⟨B, 2, none⟩ (.int .i64 (maxI 0 (IntKind.i64.wrap (tw - (u0 : Int).tmod 9))))).setCell ⟨B, 3, none⟩ (.int .i64 (minI 2000 (IntKind.i64.wrap (tw + (u1 : Int).tmod 9))))).setCell ⟨B, 4, none⟩ (.int .i64 (maxI 0 (IntKind.i64.wrap (th - (u2 : Int).tmod 9))))).setCell ⟨B, 5, none⟩ (.int .i64 (minI 2000 (IntKind.i64.wrap (th + (u3 : Int).tmod 9))))).setCell ⟨B, 6, none⟩ (.slice none 0 0)) := ⟨_, rfl⟩
       have hb9 : Below Z9 wd u9 := by rw [hu9]; exact ((((((HB.out.setCell HOB.out _).setCell HOB.out _).setCell HOB.out _).setCell HOB.out _).setCell HOB.out _).setCell HOB.out _).setCell HOB.out _
       have c9 : u9.heap[B]? = some (.cells #[.int .i64 (leavesW m f).length, .int .i64 0, .int .i64 (maxI 0 (IntKind.i64.wrap (tw - (u0 : Int).tmod 9))), .int .i64 (minI 2000 (IntKind.i64.wrap (tw + (u1 : Int).tmod 9))), .int .i64 (maxI 0 (IntKind.i64.wrap (th - (u2 : Int).tmod 9))), .int .i64 (minI 2000 (IntKind.i64.wrap (th + (u3 : Int).tmod 9))), .slice none 0 0] 30 (0, 0)) := by rw [hu9]; exact blk_set (blk_set (blk_set (blk_set (blk_set (blk_set (blk_set C5.out 0 _) 1 _) 2 _) 3 _) 4 _) 5 _) 6 _
       rw [<- hu9]
       have HB9 := Lib.hid hb9
       have C9 := Lib.hid c9
       clear hu9 hb9 c9 c0 c1 c2 c3 c4 c5 c6 f0 f1 f2 f3 f4 f5 f6
       refine hK.out _ _ ?_ (fun hNew => ?_)
       · exact ⟨Lib.hid (HBD7.out.trans ((HB9.out).mono (show w.heap.size <= Z9 by have := HZL.out; omega))), (World.cell?_of_block ((HB9.out).block _ (show w.heap.size + 1 < Z9 by have := HZL.out; omega))).trans HS7.out⟩
       clear hK K hHeld
       have hHeld := hNew
       clear hNew
       (try simp only [List.getElem_toArray, List.getElem_cons_zero, List.getElem_cons_succ, Act.put, List.setIfInBounds_toArray, List.set_cons_zero, List.set_cons_succ])
       refine wpAnyH_done (by kernel_rfl) ?_ _
       exact ⟨B, rfl, HOB.out, Lib.hid (HWD7.out.trans HB9.out), C9⟩
  | ret => exact hR.elim
  | exit id => exact hR.elim
  | goto t => exact hR.elim
  | panic ch => exact hR.elim
  | outgrown => exact hR.elim
 case reg =>
  have s0 : w1.drew.cell? ⟨w.heap.size, 0, none⟩ = some (.slice a n1 cap) := blk_cell (blk_drew x1) 0
  have s1 : w1.drew.cell? ⟨w.heap.size, 1, none⟩ = some (.slice a2 n2 cap2) := blk_cell (blk_drew x1) 1
  have s2 : w1.drew.cell? ⟨w.heap.size, 2, none⟩ = some (.int .i64 p.trim) := blk_cell (blk_drew x1) 2
  have s3 : w1.drew.cell? ⟨w.heap.size, 3, none⟩ = some (.int .i64 p.sheets) := blk_cell (blk_drew x1) 3
  have s4 : w1.drew.cell? ⟨w.heap.size + 1, 0, none⟩ = some (.slice a3 n3 cap3) := blk_cell (blk_drew x2) 0
  have hbd : Below w.heap.size w w1.drew := Below.drew hb1
  refine wp_region_held_drew (S := fun u => Hid (Below w.heap.size w u) /\ u.cell? ⟨w.heap.size, 0, none⟩ = some (.slice a n1 cap) /\ u.cell? ⟨w.heap.size, 1, none⟩ = some (.slice a2 n2 cap2) /\ u.cell? ⟨w.heap.size, 2, none⟩ = some (.int .i64 p.trim) /\ u.cell? ⟨w.heap.size, 3, none⟩ = some (.int .i64 p.sheets) /\ u.cell? ⟨w.heap.size + 1, 0, none⟩ = some (.slice a3 n3 cap3)) (by kernel_rfl) ⟨Lib.hid hbd, s0, s1, s2, s3, s4⟩ (fun hHeld => ?_)
  have S0 := Lib.hid s0
  have S1 := Lib.hid s1
  have S2 := Lib.hid s2
  have S3 := Lib.hid s3
  have S4 := Lib.hid s4
  have HBwd := Lib.hid hbd
  have HWD : Hid (w1.drew.heap = w1.heap) := Lib.hid rfl
  have HZD : Hid (w1.drew.heap.size = Z) := Lib.hid HZ.out.symm
  clear s0 s1 s2 s3 s4 hbd x1 x2 hb1
  generalize w1.drew = wd at hHeld S0 S1 S2 S3 S4 HBwd HWD HZD ⊢
  refine wpAnyH_take (i := 0) (v := ?_) rfl (by kernel_rfl) (by kernel_rfl) (by kernel_rfl) (fun _ _ _ h => h) (Or.inl ⟨by rfl, ?_⟩) (by assumption) ?_
  rotate_left
  · (intro w hSw; (try dsimp only at hSw); (try simp only [List.getElem_toArray, List.getElem_cons_zero, List.getElem_cons_succ]); go_simp; (try with_reducible rfl))
  (try simp only [List.getElem_toArray, List.getElem_cons_zero, List.getElem_cons_succ, Act.put, List.setIfInBounds_toArray, List.set_cons_zero, List.set_cons_succ])
  refine wpAnyH_take (i := 1) (v := ?_) rfl (by kernel_rfl) (by kernel_rfl) (by kernel_rfl) (fun _ _ _ h => h) (Or.inl ⟨by rfl, ?_⟩) (by assumption) ?_
  rotate_left
  · (intro w hSw; (try dsimp only at hSw); (try simp only [List.getElem_toArray, List.getElem_cons_zero, List.getElem_cons_succ]); go_simp; (try with_reducible rfl))
  (try simp only [List.getElem_toArray, List.getElem_cons_zero, List.getElem_cons_succ, Act.put, List.setIfInBounds_toArray, List.set_cons_zero, List.set_cons_succ])
  refine wpAnyH_take (i := 2) (v := ?_) rfl (by kernel_rfl) (by kernel_rfl) (by kernel_rfl) (fun _ _ _ h => h) (Or.inl ⟨by rfl, ?_⟩) (by assumption) ?_
  rotate_left
  · (intro w hSw; (try dsimp only at hSw); (try simp only [List.getElem_toArray, List.getElem_cons_zero, List.getElem_cons_succ]); go_simp; (try with_reducible rfl))
  (try simp only [List.getElem_toArray, List.getElem_cons_zero, List.getElem_cons_succ, Act.put, List.setIfInBounds_toArray, List.set_cons_zero, List.set_cons_succ])
  refine anyH_takeCall (i := 3) (v := .int .i64 (turnN ma 0)) rfl rfl (by kernel_rfl) (by kernel_rfl) (by kernel_rfl) (fun _ _ _ h => h) ?_ (by assumption) ?_
  · refine ⟨49, #[.slice a3 n3 cap3, .int .i64 ((0 : Nat) : Int)], fun u => ?_, fun u hu => turn_any ma _ 0 u (H1.out.later hu.1.out)⟩
    first
    | rfl
    | (go_simp; done)
    | (simp [execOp, resolve, go_sem]; done)
    | fail "call"
  (try simp only [List.getElem_toArray, List.getElem_cons_zero, List.getElem_cons_succ, Act.put, List.setIfInBounds_toArray, List.set_cons_zero, List.set_cons_succ])
  refine wpAnyH_ready (rs := [4, 5]) (by kernel_rfl) (by simp) ?_
  refine AllReadyH.cons rfl (fun K hK => ?_) ?_
  · skip
    have HB := Lib.hid (Below.refl Z wd)
    go_simp
    refine (Made3_any p _ _ wd (HP.out.later (HBwd.out.trans (HB.out.mono (by omega)))) HE.out (turnN_lt H1.out 0)).mono ?_
    rintro e u1 ⟨⟨m, rfl, hm⟩, hb4⟩
    have hb4z : Below Z wd u1 := hb4.mono (by have := HB.out.size; have := HZD.out; omega)
    have HB4 := Lib.hid hb4
    have HB := Lib.hid (HB.out.trans hb4z)
    have HM := Lib.hid hm
    clear hb4 hb4z hm
    refine hK.out _ _ ?_ (fun hNew => ?_)
    · exact ⟨Lib.hid (HBwd.out.trans ((HB.out).mono (show w.heap.size <= Z by omega))), (World.cell?_of_block ((HB.out).block _ (show w.heap.size < Z by omega))).trans S0.out, (World.cell?_of_block ((HB.out).block _ (show w.heap.size < Z by omega))).trans S1.out, (World.cell?_of_block ((HB.out).block _ (show w.heap.size < Z by omega))).trans S2.out, (World.cell?_of_block ((HB.out).block _ (show w.heap.size < Z by omega))).trans S3.out, (World.cell?_of_block ((HB.out).block _ (show w.heap.size + 1 < Z by omega))).trans S4.out⟩
    clear hK K hHeld
    have hHeld := hNew
    clear hNew
    (try simp only [List.getElem_toArray, List.getElem_cons_zero, List.getElem_cons_succ, Act.put, List.setIfInBounds_toArray, List.set_cons_zero, List.set_cons_succ])
    refine wpAnyH_ready (rs := [5]) (by kernel_rfl) (by simp) ?_
    refine AllReadyH.cons rfl (fun K hK => ?_) AllReadyH.nil
    go_simp
    obtain ⟨u2, hu2⟩ : ∃ v, v = (u1).alloc (.cells #[.int .i64 0, .int .i64 0, .int .i64 0, .bool false] 50) := ⟨_, rfl⟩
    have hzu : Z <= (u1).heap.size := by have := HB.out.size; have := HZD.out; omega
    have hbu : Below (u1).heap.size u1 u2 := by rw [hu2]; exact (Below.refl _ _).alloc (Nat.le_refl _) _
    have c5 : (u2).heap[(u1).heap.size]? = some (.cells #[.int .i64 0, .int .i64 0, .int .i64 0, .bool false] 50 (0, 0)) := by rw [hu2]; exact World.alloc_heap_new _ _
    rw [<- hu2]
    have HB := Lib.hid (HB.out.trans (hbu.mono hzu))
    generalize hO : (u1).heap.size = O at hzu c5 ⊢
    have C5 := Lib.hid c5
    have HO := Lib.hid hzu
    clear hu2 hbu c5 hzu hO
    refine hK.out _ _ ?_ (fun hNew => ?_)
    · exact ⟨Lib.hid (HBwd.out.trans ((HB.out).mono (show w.heap.size <= Z by omega))), (World.cell?_of_block ((HB.out).block _ (show w.heap.size < Z by omega))).trans S0.out, (World.cell?_of_block ((HB.out).block _ (show w.heap.size < Z by omega))).trans S1.out, (World.cell?_of_block ((HB.out).block _ (show w.heap.size < Z by omega))).trans S2.out, (World.cell?_of_block ((HB.out).block _ (show w.heap.size < Z by omega))).trans S3.out, (World.cell?_of_block ((HB.out).block _ (show w.heap.size + 1 < Z by omega))).trans S4.out⟩
    clear hK K hHeld
    have hHeld := hNew
    clear hNew
    (try simp only [List.getElem_toArray, List.getElem_cons_zero, List.getElem_cons_succ, Act.put, List.setIfInBounds_toArray, List.set_cons_zero, List.set_cons_succ])
    refine wpAnyH_ready (rs := [6]) (by kernel_rfl) (by simp) ?_
    refine AllReadyH.cons rfl (fun K hK => ?_) AllReadyH.nil
    have c0 := blk_cell C5.out 0
    have c1 := blk_cell C5.out 1
    have c2 := blk_cell C5.out 2
    have c3 := blk_cell C5.out 3
    have f0 := blk_free C5.out 0
    have f1 := blk_free C5.out 1
    have f2 := blk_free C5.out 2
    have f3 := blk_free C5.out 3
    go_simp
    obtain ⟨u9, hu9⟩ : ∃ v, v = ((((u2).setCell ⟨O, 0, none⟩ (.int .i64 m.fmt)).setCell ⟨O, 1, none⟩ (.int .i64 m.ppr)).setCell ⟨O, 2, none⟩ (.int .i64 m.sheets)).setCell ⟨O, 3, none⟩ (.bool m.half) := ⟨_, rfl⟩
    have hb9 : Below Z wd u9 := by rw [hu9]; exact (((HB.out.setCell HO.out _).setCell HO.out _).setCell HO.out _).setCell HO.out _
    have c9 : u9.heap[O]? = some (.cells #[.int .i64 m.fmt, .int .i64 m.ppr, .int .i64 m.sheets, .bool m.half] 50 (0, 0)) := by rw [hu9]; exact blk_set (blk_set (blk_set (blk_set C5.out 0 _) 1 _) 2 _) 3 _
    rw [<- hu9]
    have HB9 := Lib.hid hb9
    have C9 := Lib.hid c9
    clear hu9 hb9 c9 c0 c1 c2 c3 f0 f1 f2 f3
    refine hK.out _ _ ?_ (fun hNew => ?_)
    · exact ⟨Lib.hid (HBwd.out.trans ((HB9.out).mono (show w.heap.size <= Z by omega))), (World.cell?_of_block ((HB9.out).block _ (show w.heap.size < Z by omega))).trans S0.out, (World.cell?_of_block ((HB9.out).block _ (show w.heap.size < Z by omega))).trans S1.out, (World.cell?_of_block ((HB9.out).block _ (show w.heap.size < Z by omega))).trans S2.out, (World.cell?_of_block ((HB9.out).block _ (show w.heap.size < Z by omega))).trans S3.out, (World.cell?_of_block ((HB9.out).block _ (show w.heap.size + 1 < Z by omega))).trans S4.out⟩
    clear hK K hHeld
    have hHeld := hNew
    clear hNew
    (try simp only [List.getElem_toArray, List.getElem_cons_zero, List.getElem_cons_succ, Act.put, List.setIfInBounds_toArray, List.set_cons_zero, List.set_cons_succ])
    refine wpAnyH_done (by kernel_rfl) ?_ _
    exact ⟨m, O, _, _, _, _, _, rfl, HM.out, HO.out, Lib.hid (HBwd.out.trans (HB9.out.mono (by omega))), Lib.hid (fun k hk => (HB9.out.block k hk).trans (by rw [HWD.out])), C9⟩
  · refine AllReadyH.cons rfl (fun K hK => ?_) AllReadyH.nil
    have HB := Lib.hid (Below.refl Z wd)
    go_simp
    obtain ⟨u1, hu2⟩ : ∃ v, v = (wd).alloc (.cells #[.int .i64 0, .int .i64 0, .int .i64 0, .bool false] 50) := ⟨_, rfl⟩
    have hzu : Z <= (wd).heap.size := by have := HB.out.size; have := HZD.out; omega
    have hbu : Below (wd).heap.size wd u1 := by rw [hu2]; exact (Below.refl _ _).alloc (Nat.le_refl _) _
    have c5 : (u1).heap[(wd).heap.size]? = some (.cells #[.int .i64 0, .int .i64 0, .int .i64 0, .bool false] 50 (0, 0)) := by rw [hu2]; exact World.alloc_heap_new _ _
    rw [<- hu2]
    have HB := Lib.hid (HB.out.trans (hbu.mono hzu))
    generalize hO : (wd).heap.size = O at hzu c5 ⊢
    have C5 := Lib.hid c5
    have HO := Lib.hid hzu
    clear hu2 hbu c5 hzu hO
    refine hK.out _ _ ?_ (fun hNew => ?_)
    · exact ⟨Lib.hid (HBwd.out.trans ((HB.out).mono (show w.heap.size <= Z by omega))), (World.cell?_of_block ((HB.out).block _ (show w.heap.size < Z by omega))).trans S0.out, (World.cell?_of_block ((HB.out).block _ (show w.heap.size < Z by omega))).trans S1.out, (World.cell?_of_block ((HB.out).block _ (show w.heap.size < Z by omega))).trans S2.out, (World.cell?_of_block ((HB.out).block _ (show w.heap.size < Z by omega))).trans S3.out, (World.cell?_of_block ((HB.out).block _ (show w.heap.size + 1 < Z by omega))).trans S4.out⟩
    clear hK K hHeld
    have hHeld := hNew
    clear hNew
    (try simp only [List.getElem_toArray, List.getElem_cons_zero, List.getElem_cons_succ, Act.put, List.setIfInBounds_toArray, List.set_cons_zero, List.set_cons_succ])
    refine wpAnyH_ready (rs := [4]) (by kernel_rfl) (by simp) ?_
    refine AllReadyH.cons rfl (fun K hK => ?_) AllReadyH.nil
    go_simp
    refine (Made3_any p _ _ u1 (HP.out.later (HBwd.out.trans (HB.out.mono (by omega)))) HE.out (turnN_lt H1.out 0)).mono ?_
    rintro e u2 ⟨⟨m, rfl, hm⟩, hb4⟩
    have hb4z : Below Z u1 u2 := hb4.mono (by have := HB.out.size; have := HZD.out; omega)
    have HB4 := Lib.hid hb4
    have HB := Lib.hid (HB.out.trans hb4z)
    have HM := Lib.hid hm
    clear hb4 hb4z hm
    refine hK.out _ _ ?_ (fun hNew => ?_)
    · exact ⟨Lib.hid (HBwd.out.trans ((HB.out).mono (show w.heap.size <= Z by omega))), (World.cell?_of_block ((HB.out).block _ (show w.heap.size < Z by omega))).trans S0.out, (World.cell?_of_block ((HB.out).block _ (show w.heap.size < Z by omega))).trans S1.out, (World.cell?_of_block ((HB.out).block _ (show w.heap.size < Z by omega))).trans S2.out, (World.cell?_of_block ((HB.out).block _ (show w.heap.size < Z by omega))).trans S3.out, (World.cell?_of_block ((HB.out).block _ (show w.heap.size + 1 < Z by omega))).trans S4.out⟩
    clear hK K hHeld
    have hHeld := hNew
    clear hNew
    (try simp only [List.getElem_toArray, List.getElem_cons_zero, List.getElem_cons_succ, Act.put, List.setIfInBounds_toArray, List.set_cons_zero, List.set_cons_succ])
    have C5 := Lib.hid (blk_later HB4.out C5.out)
    refine wpAnyH_ready (rs := [6]) (by kernel_rfl) (by simp) ?_
    refine AllReadyH.cons rfl (fun K hK => ?_) AllReadyH.nil
    have c0 := blk_cell C5.out 0
    have c1 := blk_cell C5.out 1
    have c2 := blk_cell C5.out 2
    have c3 := blk_cell C5.out 3
    have f0 := blk_free C5.out 0
    have f1 := blk_free C5.out 1
    have f2 := blk_free C5.out 2
    have f3 := blk_free C5.out 3
    go_simp
    obtain ⟨u9, hu9⟩ : ∃ v, v = ((((u2).setCell ⟨O, 0, none⟩ (.int .i64 m.fmt)).setCell ⟨O, 1, none⟩ (.int .i64 m.ppr)).setCell ⟨O, 2, none⟩ (.int .i64 m.sheets)).setCell ⟨O, 3, none⟩ (.bool m.half) := ⟨_, rfl⟩
    have hb9 : Below Z wd u9 := by rw [hu9]; exact (((HB.out.setCell HO.out _).setCell HO.out _).setCell HO.out _).setCell HO.out _
    have c9 : u9.heap[O]? = some (.cells #[.int .i64 m.fmt, .int .i64 m.ppr, .int .i64 m.sheets, .bool m.half] 50 (0, 0)) := by rw [hu9]; exact blk_set (blk_set (blk_set (blk_set C5.out 0 _) 1 _) 2 _) 3 _
    rw [<- hu9]
    have HB9 := Lib.hid hb9
    have C9 := Lib.hid c9
    clear hu9 hb9 c9 c0 c1 c2 c3 f0 f1 f2 f3
    refine hK.out _ _ ?_ (fun hNew => ?_)
    · exact ⟨Lib.hid (HBwd.out.trans ((HB9.out).mono (show w.heap.size <= Z by omega))), (World.cell?_of_block ((HB9.out).block _ (show w.heap.size < Z by omega))).trans S0.out, (World.cell?_of_block ((HB9.out).block _ (show w.heap.size < Z by omega))).trans S1.out, (World.cell?_of_block ((HB9.out).block _ (show w.heap.size < Z by omega))).trans S2.out, (World.cell?_of_block ((HB9.out).block _ (show w.heap.size < Z by omega))).trans S3.out, (World.cell?_of_block ((HB9.out).block _ (show w.heap.size + 1 < Z by omega))).trans S4.out⟩
    clear hK K hHeld
    have hHeld := hNew
    clear hNew
    (try simp only [List.getElem_toArray, List.getElem_cons_zero, List.getElem_cons_succ, Act.put, List.setIfInBounds_toArray, List.set_cons_zero, List.set_cons_succ])
    refine wpAnyH_done (by kernel_rfl) ?_ _
    exact ⟨m, O, _, _, _, _, _, rfl, HM.out, HO.out, Lib.hid (HBwd.out.trans (HB9.out.mono (by omega))), Lib.hid (fun k hk => (HB9.out.block k hk).trans (by rw [HWD.out])), C9⟩
end
end Go.Proofs.YtpdhdgdbknnllaaGreatDoor
