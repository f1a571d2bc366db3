/- The parts Ti of the proof, joined. It holds without conditions of its own. -/
import Derived.Test.YtpdhdgdbknnllaaGreatDoorFT9
import Derived.Test.YtpdhdgdbknnllaaGreatDoorFT10
set_option maxRecDepth 100000
set_option maxHeartbeats 20000000
namespace Go.Proofs.YtpdhdgdbknnllaaGreatDoor
section
set_option linter.unusedSimpArgs false
set_option linter.unusedVariables false
open Go Go.RowKit Go.Sort Go.BigFrame
def mateB (l : List Fl) (k i : Nat) : Bool := match l[i]?, l[k]? with
 | some a, some b => a != b && a.sheet == b.sheet
 | _, _ => false
theorem matesF_is (l : List Fl) (k : Nat) : matesF l k = (List.range l.length).filter (mateB l k) := rfl
theorem mates_any (m : Mkw) (s : Bs) (c r : Int) (q : Ppr) (tr : Int) (lv : Value) (ls : List Fl) (g i : Nat) (y : Fl) (w : World) (hl : LeavesAt w lv ls g) (hn : ls.length <= 1000) (hi : ls[i]? = some y) :
  Calls Tryz.prog 55 #[.agg (wayC m s c r q tr lv), .int .i64 i] w fun e w' => (∃ v', e = .returned v' /\ w'.ownsRow w.heap.size 3 1 v' (matesF ls i).length (intVs (matesF ls i))) /\ Below w.heap.size w w' := by
 have HL := Lib.hid hl
 obtain ⟨k7, rest, rfl, -⟩ := hl
 obtain ⟨n7, hn7⟩ : ∃ n, n = ls.length := ⟨_, rfl⟩
 rw [<- hn7] at HL hn ⊢
 have hi7 : i < n7 := by rw [hn7]; exact (List.getElem?_eq_some_iff.1 hi).1
 rw [matesF_is, <- hn7]
 have HN := Lib.hid hn7
 have HY := Lib.hid hi
 have hb0 : Below w.heap.size w (w.alloc (.cells (wayC m s c r q tr (.slice (some ⟨g, 0, none⟩) n7 (n7 + k7))) 83)) := (Below.refl _ _).alloc (Nat.le_refl _) _
 have hc1 : (w.alloc (.cells (wayC m s c r q tr (.slice (some ⟨g, 0, none⟩) n7 (n7 + k7))) 83)).heap[w.heap.size]? = some (.cells (wayC m s c r q tr (.slice (some ⟨g, 0, none⟩) n7 (n7 + k7))) 83 (0, 0)) := by exact (by repeat (first | exact heap_alloc_at _ _ _ (by (first | omega | (simp; done) | (simp; omega) | (simp at *; omega) | fail)) | assumption | rw [heap_alloc_past _ _ _ (by (first | omega | (simp; done) | (simp; omega) | (simp at *; omega) | fail))] | rw [heap_setCell_past _ _ _ _ (by (first | omega | (simp; done) | (simp; omega) | (simp at *; omega) | fail))] | fail))
 have HL1 := Lib.hid (HL.out.later hb0)
 have hs1 : (w.alloc (.cells (wayC m s c r q tr (.slice (some ⟨g, 0, none⟩) n7 (n7 + k7))) 83)).heap.size = w.heap.size + 1 := by simp
 clear hn7 hi HL
 obtain ⟨ei, hi1, hi2, hi3, hi4⟩ := elemInt
 have HI := Lib.hid (And.intro hi1 (And.intro hi2 (And.intro hi3 hi4)))
 clear hi1 hi2 hi3 hi4
 have d13 : (w.alloc (.cells (wayC m s c r q tr (.slice (some ⟨g, 0, none⟩) n7 (n7 + k7))) 83)).cell? ⟨w.heap.size, 13, none⟩ = some (.slice (some ⟨g, 0, none⟩) n7 (n7 + k7)) := by simp [World.cell?_alloc_at]
 go_enter Tryz.func55, Tryz.ntmps55
 go_wp2_with fail
 revert hb0 hc1 HL1 hs1 d13
 generalize (w.alloc (.cells (wayC m s c r q tr (.slice (some ⟨g, 0, none⟩) n7 (n7 + k7))) 83)) = w1
 intro hb0 hc1 HL1 hs1 d13
 have HS1 := Lib.hid hs1
 have hs9 : w.heap.size <= w1.heap.size := by omega
 clear hs1
 go_loopw [5, 11] (fun v j wr => ∃ (k : Nat), k <= n7 /\ j = .int .i64 k /\ Hid (wr.ownsRow w1.heap.size 3 1 v ((List.range k).filter (mateB ls i)).length (intVs ((List.range k).filter (mateB ls i)))) /\ Hid (Below w1.heap.size w1 wr)) (fun _ j _ => n7 - (intOf j).toNat)
 case atStart => exact ⟨0, by omega, rfl, World.ownsRow_nil _ _ _ _, Below.refl _ _⟩
 case round =>
  obtain ⟨k, hk, rfl, HR, HB⟩ := hrel
  have hz := HB.out.size
  by_cases hlt : k < n7
  · obtain ⟨x, hx⟩ : ∃ x, ls[k]? = some x := ⟨_, List.getElem?_eq_getElem (by have := HN.out; omega)⟩
    have HX := Lib.hid hx
    clear hx
    obtain ⟨x0, x1, x2, x3, x4⟩ := leaf_cells (HL1.out.later HB.out) HX.out
    go_wp2_with fail
    obtain ⟨w2, hw2⟩ : ∃ w2, w2 = (wr.alloc (.cells #[.int .i64 x.sheet, .int .i64 x.col, .int .i64 x.row, .bool x.inner, .bool x.turned] 106)) := ⟨_, rfl⟩
    have hb2 : Below w1.heap.size w1 w2 := by rw [hw2]; exact HB.out.alloc (by omega) _
    have hz2 : w1.heap.size <= w2.heap.size := hb2.size
    have bx : w2.heap[wr.heap.size]? = some (.cells #[.int .i64 x.sheet, .int .i64 x.col, .int .i64 x.row, .bool x.inner, .bool x.turned] 106 (0, 0)) := by rw [hw2]; exact (by repeat (first | exact heap_alloc_at _ _ _ (by (first | omega | (simp; done) | (simp; omega) | (simp at *; omega) | fail)) | assumption | rw [heap_alloc_past _ _ _ (by (first | omega | (simp; done) | (simp; omega) | (simp at *; omega) | fail))] | rw [heap_setCell_past _ _ _ _ (by (first | omega | (simp; done) | (simp; omega) | (simp at *; omega) | fail))] | fail))
    have HR2 := Lib.hid (show w2.ownsRow w1.heap.size 3 1 _ _ _ by rw [hw2]; exact HR.out.alloc _)
    have HL2 := Lib.hid (HL1.out.later hb2)
    obtain ⟨y0, y1, y2, y3, y4⟩ := leaf_cells HL2.out HY.out
    have bw := blk_later hb2 hc1
    rw [<- hw2]
    clear hw2 x0 x1 x2 x3 x4
    have p0 := cell_regrown (blk_cell bx 0)
    have p1 := cell_regrown (blk_cell bx 1)
    have p2 := cell_regrown (blk_cell bx 2)
    have p3 := cell_regrown (blk_cell bx 3)
    have p4 := cell_regrown (blk_cell bx 4)
    have s0 := cell_regrown y0
    have s1 := cell_regrown y1
    have s2 := cell_regrown y2
    have s3 := cell_regrown y3
    have s4 := cell_regrown y4
    have t0 := cell_regrown (blk_cell bw 0)
    have t1 := cell_regrown (blk_cell bw 1)
    have t2 := cell_regrown (blk_cell bw 2)
    have t3 := cell_regrown (blk_cell bw 3)
    have t4 := cell_regrown (blk_cell bw 4)
    have t5 := cell_regrown (blk_cell bw 5)
    have t6 := cell_regrown (blk_cell bw 6)
    have t7 := cell_regrown (blk_cell bw 7)
    have t8 := cell_regrown (blk_cell bw 8)
    have t9 := cell_regrown (blk_cell bw 9)
    have t10 := cell_regrown (blk_cell bw 10)
    have t11 := cell_regrown (blk_cell bw 11)
    have t12 := cell_regrown (blk_cell bw 12)
    have t13 := cell_regrown (blk_cell bw 13)
    have cT : ∀ tb : Bool, (x.sheet == y.sheet) = tb -> ∀ d' os, Calls Tryz.prog 66 #[.agg (wayC m s c r q tr (.slice (some ⟨g, 0, none⟩) n7 (n7 + k7))), .int .i64 k, .int .i64 i] (grow (redrawn w2 d') os) (fun e w'' => e = .returned (.bool tb) /\ ∃ p : Regrown, w'' = grow (redrawn w2 p.d) p.os) := fun tb htb d' os => Calls.regrown_of (by rw [<- htb]; exact together_any m s c r q tr _ ls g k i x y _ (HL2.out.later (below_regrown w2 d' os)) (by have := HN.out; omega) HX.out HY.out)
    have hM : mateB ls i k = (x != y && x.sheet == y.sheet) := by unfold mateB; rw [HX.out, HY.out]
    clear y0 y1 y2 y3 y4 bx bw
    by_cases hs : x.sheet = y.sheet
    · have c1 := cT true (by simp [hs])
      clear cT
      by_cases hxy : x = y
      · have HF := Lib.hid (show mateB ls i k = false by rw [hM, hxy]; simp)
        subst hxy
        clear hM hs
        refine wp_region_quiet_below (by kernel_rfl) (by kernel_rfl) ?_; (repeat (go_big_quiet_step (with_reducible exact c1 _ _))); refine wpQuiet_nil ?_; rintro w3 ⟨⟨d3, os3⟩, rfl⟩
        have HR3 := Lib.hid (row_later HR2.out (below_regrown w2 d3 os3))
        have HB3 := Lib.hid (hb2.trans ((below_regrown w2 d3 os3).mono hz2))
        clear p0 p1 p2 p3 p4 t0 t1 t2 t3 t4 t5 t6 t7 t8 t9 t10 t11 t12 t13 c1
        dsimp only
        generalize grow (redrawn w2 d3) os3 = w3 at *
        go_wp2_with fail
        go_roundw
        case rel => exact ⟨k + 1, by omega, by go_num, (by show World.ownsRow _ _ _ _ _ _ _; rw [range_filter_no HF.out]; exact HR3.out), HB3.out⟩
        case measure => simp [intOf]; omega
      · have HF := Lib.hid (show mateB ls i k = true by rw [hM]; simp [hs, hxy])
        clear hM HX HY
        obtain ⟨xa, xb, xc, xd, xe⟩ := x
        obtain ⟨ya, yb, yc, yd, ye⟩ := y
        dsimp only at hs
        subst hs
        have e1 : (¬ xb = yb /\ ¬ (xb : Int) = (yb : Int)) ∨ (xb = yb /\ ((¬ xc = yc /\ ¬ (xc : Int) = (yc : Int)) ∨ (xc = yc /\ ((¬ xd = yd) ∨ (xd = yd /\ ¬ xe = ye))))) := by
         by_cases h1 : xb = yb
         · refine Or.inr ⟨h1, ?_⟩
           by_cases h2 : xc = yc
           · refine Or.inr ⟨h2, ?_⟩
             by_cases h3 : xd = yd
             · exact Or.inr ⟨h3, fun h4 => hxy (by rw [h1, h2, h3, h4])⟩
             · exact Or.inl h3
           · exact Or.inl ⟨h2, by omega⟩
         · exact Or.inl ⟨h1, by omega⟩
        clear hxy
        dsimp only at p0 p1 p2 p3 p4 s0 s1 s2 s3 s4 c1
        have H2 : Hid (∀ f : Int, f = f) := Lib.hid fun _ => rfl
        rcases e1 with ⟨h1, h1'⟩ | ⟨rfl, ⟨h1, h1'⟩ | ⟨rfl, h1 | ⟨rfl, h1⟩⟩⟩
        · refine wp_region_quiet_below (by kernel_rfl) (by kernel_rfl) ?_; (repeat (go_big_quiet_step (with_reducible exact c1 _ _))); refine wpQuiet_nil ?_; rintro w3 ⟨⟨d3, os3⟩, rfl⟩
          have HR3 := Lib.hid (row_later HR2.out (below_regrown w2 d3 os3))
          have HB3 := Lib.hid (hb2.trans ((below_regrown w2 d3 os3).mono hz2))
          have hrl := range_filter_len (mateB ls i) k
          clear p0 p1 p2 p3 p4 s0 s1 s2 s3 s4 t0 t1 t2 t3 t4 t5 t6 t7 t8 t9 t10 t11 t12 t13 c1
          dsimp only
          generalize grow (redrawn w2 d3) os3 = w3 at *
          obtain ⟨hi1, hi2, hi3, hi4⟩ := HI.out
          have hz3 := HB3.out.size
          go_wp2_with (at_builtin; (refine wpList_append_own _ rfl _ _ 36 rfl w1.heap.size 3 ei _ 1 8 undInts hi1 hi2 hi3 hi4 rfl (by decide) u5 ((List.range k).filter (mateB ls i)).length (intVs ((List.range k).filter (mateB ls i))) rfl (HR3.out.alloc _) ⟨w3.heap.size, 0, none⟩ 1 1 [.int .i64 k] rfl rfl ?a1 ?b1 ?c1 ?d1 ?e1 ?f1))
          case b1 => simp [Value.oneCell']
          case c1 => simp only [maxLen]; omega
          case d1 => omega
          case e1 => (first | omega | (simp; omega))
          case f1 =>
           rintro v' w7 hown hgrow -
           have HB7 := Lib.hid (HB3.out.trans ((((Below.refl _ w3).alloc (Nat.le_refl _) (.cells #[.int .i64 k] 3)).mono hz3).trans (below_row (HR3.out.alloc _) (by simp; omega) hgrow)))
           have HO := Lib.hid hown
           clear hgrow hown hi1 hi2 hi3 hi4
           go_wp2_with fail
           go_roundw
           case rel => exact ⟨k + 1, by omega, by go_num, (by
            show World.ownsRow _ _ _ _ _ _ _
            rw [range_filter_yes HF.out]
            have h := HO.out
            simpa [intVs] using h), HB7.out⟩
           case measure => simp [intOf]; omega
        · refine wp_region_quiet_below (by kernel_rfl) (by kernel_rfl) ?_; (repeat (go_big_quiet_step (with_reducible exact c1 _ _))); refine wpQuiet_nil ?_; rintro w3 ⟨⟨d3, os3⟩, rfl⟩
          have HR3 := Lib.hid (row_later HR2.out (below_regrown w2 d3 os3))
          have HB3 := Lib.hid (hb2.trans ((below_regrown w2 d3 os3).mono hz2))
          have hrl := range_filter_len (mateB ls i) k
          clear p0 p1 p2 p3 p4 s0 s1 s2 s3 s4 t0 t1 t2 t3 t4 t5 t6 t7 t8 t9 t10 t11 t12 t13 c1
          dsimp only
          generalize grow (redrawn w2 d3) os3 = w3 at *
          obtain ⟨hi1, hi2, hi3, hi4⟩ := HI.out
          have hz3 := HB3.out.size
          go_wp2_with (at_builtin; (refine wpList_append_own _ rfl _ _ 36 rfl w1.heap.size 3 ei _ 1 8 undInts hi1 hi2 hi3 hi4 rfl (by decide) u5 ((List.range k).filter (mateB ls i)).length (intVs ((List.range k).filter (mateB ls i))) rfl (HR3.out.alloc _) ⟨w3.heap.size, 0, none⟩ 1 1 [.int .i64 k] rfl rfl ?a2 ?b2 ?c2 ?d2 ?e2 ?f2))
          case b2 => simp [Value.oneCell']
          case c2 => simp only [maxLen]; omega
          case d2 => omega
          case e2 => (first | omega | (simp; omega))
          case f2 =>
           rintro v' w7 hown hgrow -
           have HB7 := Lib.hid (HB3.out.trans ((((Below.refl _ w3).alloc (Nat.le_refl _) (.cells #[.int .i64 k] 3)).mono hz3).trans (below_row (HR3.out.alloc _) (by simp; omega) hgrow)))
           have HO := Lib.hid hown
           clear hgrow hown hi1 hi2 hi3 hi4
           go_wp2_with fail
           go_roundw
           case rel => exact ⟨k + 1, by omega, by go_num, (by
            show World.ownsRow _ _ _ _ _ _ _
            rw [range_filter_yes HF.out]
            have h := HO.out
            simpa [intVs] using h), HB7.out⟩
           case measure => simp [intOf]; omega
        · cases xd <;> cases yd <;> first | exact absurd rfl h1 | skip
          · refine wp_region_quiet_below (by kernel_rfl) (by kernel_rfl) ?_; (repeat (go_big_quiet_step (with_reducible exact c1 _ _))); refine wpQuiet_nil ?_; rintro w3 ⟨⟨d3, os3⟩, rfl⟩
            have HR3 := Lib.hid (row_later HR2.out (below_regrown w2 d3 os3))
            have HB3 := Lib.hid (hb2.trans ((below_regrown w2 d3 os3).mono hz2))
            have hrl := range_filter_len (mateB ls i) k
            clear p0 p1 p2 p3 p4 s0 s1 s2 s3 s4 t0 t1 t2 t3 t4 t5 t6 t7 t8 t9 t10 t11 t12 t13 c1
            dsimp only
            generalize grow (redrawn w2 d3) os3 = w3 at *
            obtain ⟨hi1, hi2, hi3, hi4⟩ := HI.out
            have hz3 := HB3.out.size
            go_wp2_with (at_builtin; (refine wpList_append_own _ rfl _ _ 36 rfl w1.heap.size 3 ei _ 1 8 undInts hi1 hi2 hi3 hi4 rfl (by decide) u5 ((List.range k).filter (mateB ls i)).length (intVs ((List.range k).filter (mateB ls i))) rfl (HR3.out.alloc _) ⟨w3.heap.size, 0, none⟩ 1 1 [.int .i64 k] rfl rfl ?a3 ?b3 ?c3 ?d3 ?e3 ?f3))
            case b3 => simp [Value.oneCell']
            case c3 => simp only [maxLen]; omega
            case d3 => omega
            case e3 => (first | omega | (simp; omega))
            case f3 =>
             rintro v' w7 hown hgrow -
             have HB7 := Lib.hid (HB3.out.trans ((((Below.refl _ w3).alloc (Nat.le_refl _) (.cells #[.int .i64 k] 3)).mono hz3).trans (below_row (HR3.out.alloc _) (by simp; omega) hgrow)))
             have HO := Lib.hid hown
             clear hgrow hown hi1 hi2 hi3 hi4
             go_wp2_with fail
             go_roundw
             case rel => exact ⟨k + 1, by omega, by go_num, (by
              show World.ownsRow _ _ _ _ _ _ _
              rw [range_filter_yes HF.out]
              have h := HO.out
              simpa [intVs] using h), HB7.out⟩
             case measure => simp [intOf]; omega
          · refine wp_region_quiet_below (by kernel_rfl) (by kernel_rfl) ?_; (repeat (go_big_quiet_step (with_reducible exact c1 _ _))); refine wpQuiet_nil ?_; rintro w3 ⟨⟨d3, os3⟩, rfl⟩
            have HR3 := Lib.hid (row_later HR2.out (below_regrown w2 d3 os3))
            have HB3 := Lib.hid (hb2.trans ((below_regrown w2 d3 os3).mono hz2))
            have hrl := range_filter_len (mateB ls i) k
            clear p0 p1 p2 p3 p4 s0 s1 s2 s3 s4 t0 t1 t2 t3 t4 t5 t6 t7 t8 t9 t10 t11 t12 t13 c1
            dsimp only
            generalize grow (redrawn w2 d3) os3 = w3 at *
            obtain ⟨hi1, hi2, hi3, hi4⟩ := HI.out
            have hz3 := HB3.out.size
            go_wp2_with (at_builtin; (refine wpList_append_own _ rfl _ _ 36 rfl w1.heap.size 3 ei _ 1 8 undInts hi1 hi2 hi3 hi4 rfl (by decide) u5 ((List.range k).filter (mateB ls i)).length (intVs ((List.range k).filter (mateB ls i))) rfl (HR3.out.alloc _) ⟨w3.heap.size, 0, none⟩ 1 1 [.int .i64 k] rfl rfl ?a4 ?b4 ?c4 ?d4 ?e4 ?f4))
            case b4 => simp [Value.oneCell']
            case c4 => simp only [maxLen]; omega
            case d4 => omega
            case e4 => (first | omega | (simp; omega))
            case f4 =>
             rintro v' w7 hown hgrow -
             have HB7 := Lib.hid (HB3.out.trans ((((Below.refl _ w3).alloc (Nat.le_refl _) (.cells #[.int .i64 k] 3)).mono hz3).trans (below_row (HR3.out.alloc _) (by simp; omega) hgrow)))
             have HO := Lib.hid hown
             clear hgrow hown hi1 hi2 hi3 hi4
             go_wp2_with fail
             go_roundw
             case rel => exact ⟨k + 1, by omega, by go_num, (by
              show World.ownsRow _ _ _ _ _ _ _
              rw [range_filter_yes HF.out]
              have h := HO.out
              simpa [intVs] using h), HB7.out⟩
             case measure => simp [intOf]; omega
        · cases xe <;> cases ye <;> first | exact absurd rfl h1 | skip
          · refine wp_region_quiet_below (by kernel_rfl) (by kernel_rfl) ?_; (repeat (go_big_quiet_step (with_reducible exact c1 _ _))); refine wpQuiet_nil ?_; rintro w3 ⟨⟨d3, os3⟩, rfl⟩
            have HR3 := Lib.hid (row_later HR2.out (below_regrown w2 d3 os3))
            have HB3 := Lib.hid (hb2.trans ((below_regrown w2 d3 os3).mono hz2))
            have hrl := range_filter_len (mateB ls i) k
            clear p0 p1 p2 p3 p4 s0 s1 s2 s3 s4 t0 t1 t2 t3 t4 t5 t6 t7 t8 t9 t10 t11 t12 t13 c1
            dsimp only
            generalize grow (redrawn w2 d3) os3 = w3 at *
            obtain ⟨hi1, hi2, hi3, hi4⟩ := HI.out
            have hz3 := HB3.out.size
            go_wp2_with (at_builtin; (refine wpList_append_own _ rfl _ _ 36 rfl w1.heap.size 3 ei _ 1 8 undInts hi1 hi2 hi3 hi4 rfl (by decide) u5 ((List.range k).filter (mateB ls i)).length (intVs ((List.range k).filter (mateB ls i))) rfl (HR3.out.alloc _) ⟨w3.heap.size, 0, none⟩ 1 1 [.int .i64 k] rfl rfl ?a5 ?b5 ?c5 ?d5 ?e5 ?f5))
            case b5 => simp [Value.oneCell']
            case c5 => simp only [maxLen]; omega
            case d5 => omega
            case e5 => (first | omega | (simp; omega))
            case f5 =>
             rintro v' w7 hown hgrow -
             have HB7 := Lib.hid (HB3.out.trans ((((Below.refl _ w3).alloc (Nat.le_refl _) (.cells #[.int .i64 k] 3)).mono hz3).trans (below_row (HR3.out.alloc _) (by simp; omega) hgrow)))
             have HO := Lib.hid hown
             clear hgrow hown hi1 hi2 hi3 hi4
             go_wp2_with fail
             go_roundw
             case rel => exact ⟨k + 1, by omega, by go_num, (by
              show World.ownsRow _ _ _ _ _ _ _
              rw [range_filter_yes HF.out]
              have h := HO.out
              simpa [intVs] using h), HB7.out⟩
             case measure => simp [intOf]; omega
          · refine wp_region_quiet_below (by kernel_rfl) (by kernel_rfl) ?_; (repeat (go_big_quiet_step (with_reducible exact c1 _ _))); refine wpQuiet_nil ?_; rintro w3 ⟨⟨d3, os3⟩, rfl⟩
            have HR3 := Lib.hid (row_later HR2.out (below_regrown w2 d3 os3))
            have HB3 := Lib.hid (hb2.trans ((below_regrown w2 d3 os3).mono hz2))
            have hrl := range_filter_len (mateB ls i) k
            clear p0 p1 p2 p3 p4 s0 s1 s2 s3 s4 t0 t1 t2 t3 t4 t5 t6 t7 t8 t9 t10 t11 t12 t13 c1
            dsimp only
            generalize grow (redrawn w2 d3) os3 = w3 at *
            obtain ⟨hi1, hi2, hi3, hi4⟩ := HI.out
            have hz3 := HB3.out.size
            go_wp2_with (at_builtin; (refine wpList_append_own _ rfl _ _ 36 rfl w1.heap.size 3 ei _ 1 8 undInts hi1 hi2 hi3 hi4 rfl (by decide) u5 ((List.range k).filter (mateB ls i)).length (intVs ((List.range k).filter (mateB ls i))) rfl (HR3.out.alloc _) ⟨w3.heap.size, 0, none⟩ 1 1 [.int .i64 k] rfl rfl ?a6 ?b6 ?c6 ?d6 ?e6 ?f6))
            case b6 => simp [Value.oneCell']
            case c6 => simp only [maxLen]; omega
            case d6 => omega
            case e6 => (first | omega | (simp; omega))
            case f6 =>
             rintro v' w7 hown hgrow -
             have HB7 := Lib.hid (HB3.out.trans ((((Below.refl _ w3).alloc (Nat.le_refl _) (.cells #[.int .i64 k] 3)).mono hz3).trans (below_row (HR3.out.alloc _) (by simp; omega) hgrow)))
             have HO := Lib.hid hown
             clear hgrow hown hi1 hi2 hi3 hi4
             go_wp2_with fail
             go_roundw
             case rel => exact ⟨k + 1, by omega, by go_num, (by
              show World.ownsRow _ _ _ _ _ _ _
              rw [range_filter_yes HF.out]
              have h := HO.out
              simpa [intVs] using h), HB7.out⟩
             case measure => simp [intOf]; omega
    · have c1 := cT false (by simp [hs])
      have HF := Lib.hid (show mateB ls i k = false by rw [hM]; simp [hs])
      have hs2 : ¬ (x.sheet : Int) = (y.sheet : Int) := by omega
      clear cT hM
      refine wp_region_quiet_below (by kernel_rfl) (by kernel_rfl) ?_; (repeat (go_big_quiet_step (with_reducible exact c1 _ _))); refine wpQuiet_nil ?_; rintro w3 ⟨⟨d3, os3⟩, rfl⟩
      have HR3 := Lib.hid (row_later HR2.out (below_regrown w2 d3 os3))
      have HB3 := Lib.hid (hb2.trans ((below_regrown w2 d3 os3).mono hz2))
      clear p0 p1 p2 p3 p4 t0 t1 t2 t3 t4 t5 t6 t7 t8 t9 t10 t11 t12 t13 c1
      dsimp only
      generalize grow (redrawn w2 d3) os3 = w3 at *
      go_wp2_with fail
      go_roundw
      case rel => exact ⟨k + 1, by omega, by go_num, (by show World.ownsRow _ _ _ _ _ _ _; rw [range_filter_no HF.out]; exact HR3.out), HB3.out⟩
      case measure => simp [intOf]; omega
  · obtain rfl : k = n7 := by omega
    go_wp2_with fail
    go_ret
    exact ⟨⟨_, rfl, row_mono HR.out (by omega)⟩, (by exact Below.trans hb0 (HB.out.mono (by omega)))⟩
end
end Go.Proofs.YtpdhdgdbknnllaaGreatDoor
