/- The parts Ud, Uh, Uj, Uk, Gt, Um, Un, Us of the proof, joined. It holds without conditions of its own. -/
import Derived.Test.YtielaaaeecfkoaaGreatDoorFL13
import Derived.Test.YtielaaaeecfkoaaGreatDoorFL11
import Derived.Deep.Cut
import Derived.DeepKeys3
import Derived.Maps.Keyed
import Derived.Lib.QuietBelow
import Derived.StillTail
import Derived.StillTailTactics
import Derived.BigRegion
import Derived.Test.YtielaaaeecfkoaaGreatDoorProg
/- Marked, of a way of making and halves without an error. -/
namespace Go.Proofs.YtielaaaeecfkoaaGreatDoor
set_option linter.unusedSimpArgs false
set_option linter.unusedVariables false
open Go Go.RowKit Go.Sort Go.BigFrame

/-- Is the leaf with a number marked? -/
def markAt (ls : List Fl) (co ro : Nat) (hs : List Nat) (i : Nat) : Bool := match ls[i]? with
  | some a => markB co ro (hs.getD a.sheet 0) a
  | none => false
def marksF (ls : List Fl) (co ro : Nat) (hs : List Nat) : List Nat := (List.range ls.length).filter (markAt ls co ro hs)

set_option maxRecDepth 100000 in
set_option maxHeartbeats 4000000 in
theorem Marked_any (p : Prs) (m : Mkw) (f : Fmt) (ls : List Fl) (hs : List Nat) (v vp : Value) (w : World) (hp : PrsAt w.heap.size w vp p) (he : errP p = 0) (hm : mkwErr p m = 0)
    (hf : p.fmts[m.fmt.toNat]? = some f) (hls : ls = leavesW m f) (hv : IntsAt w v (hs.map fun (n : Nat) => (n : Int))) (hlen : hs.length = m.sheets.toNat) (h01 : ∀ h ∈ hs, h ≤ 1) :
    Calls Tryz.prog 22 #[vp, mkwV m, v] w fun e w' => (∃ v', e = .returned (.tuple #[v', .int .i64 0]) ∧ IntsAt w' v' ((marksF ls (colsF (fdsB f.folds)) (rowsF (fdsB f.folds)) hs).map fun (n : Nat) => (n : Int))) ∧ Below w.heap.size w w' := by
  have HP := Lib.hid hp
  have HE := Lib.hid he
  have HM := Lib.hid hm
  have HF0 := Lib.hid hf
  have FN := Lib.hid (fine_of he hm hf)
  have HLS := Lib.hid hls
  have HV := Lib.hid hv
  obtain ⟨fv, pv, rfl, ⟨a, cap, rfl, -⟩, ⟨a2, cap2, rfl, -⟩, -⟩ := hp
  obtain ⟨n1, hn1⟩ : ∃ n, n = p.fmts.length := ⟨_, rfl⟩
  obtain ⟨n2, hn2⟩ : ∃ n, n = p.pprs.length := ⟨_, rfl⟩
  rw [← hn1, ← hn2] at HP ⊢
  clear hn1 hn2 he hm hf hls
  have hs1 := FN.out.sh1
  have hs4 := FN.out.sh4
  obtain ⟨av, capv, rfl, hcv⟩ := hv
  obtain ⟨gh, rfl, hgh, hch⟩ := hcv (by intro e; rw [List.map_eq_nil_iff] at e; rw [e] at hlen; simp at hlen; omega)
  have HCH := Lib.hid hch
  rw [List.length_map] at HV ⊢
  obtain ⟨n6, hn6⟩ : ∃ n, n = hs.length := ⟨_, rfl⟩
  have HN6 := Lib.hid hn6
  rw [← hn6] at HV hlen ⊢
  have hms : m.sheets = (n6 : Int) := by omega
  have HMS := Lib.hid hms
  have hx6 : n6 ≤ 4 := by omega
  obtain ⟨co, hco⟩ : ∃ c : Nat, c = colsF (fdsB f.folds) := ⟨_, rfl⟩
  obtain ⟨ro, hro⟩ : ∃ c : Nat, c = rowsF (fdsB f.folds) := ⟨_, rfl⟩
  have hpw := pows_all _ FN.out.mem.1
  rw [← hco, ← hro] at hpw ⊢
  have HPW := Lib.hid hpw
  have HCO := Lib.hid hco
  have HRO := Lib.hid hro
  have H01 := Lib.hid h01
  obtain ⟨n7, hn7⟩ : ∃ n, n = ls.length := ⟨_, rfl⟩
  have HN7 := Lib.hid hn7
  have hn64 : n7 ≤ 64 := by
    have := FN.out.count
    rw [← HLS.out, ← hn7] at this
    exact this.2
  unfold marksF
  rw [← hn7]
  clear hn7 hco hro hpw hms hn6 hlen hcv hch hs1 hs4 h01
  obtain ⟨ei, hi1, hi2, hi3, hi4⟩ := elemInt
  have HI := Lib.hid (And.intro hi1 (And.intro hi2 (And.intro hi3 hi4)))
  clear hi1 hi2 hi3 hi4
  go_enter Tryz.func22, Tryz.ntmps22
  go_wp2_with fail
  refine (openWay_any p m _ _ (HP.out.later (by exact (by repeat (first | exact Below.refl _ _ | assumption | (refine Below.alloc ?_ ?_ _; rotate_left; · (first | omega | (simp; done) | (simp; omega) | fail)) | (refine Below.setCell ?_ ?_ _; rotate_left; · (first | omega | (simp; done) | (simp; omega) | fail)) | refine Below.drew ?_ | fail)))) HE.out HM.out).mono ?_
  rintro e w2 ⟨⟨f', q, lv, g, hfx, hqx, rfl, hl, hg⟩, hb⟩
  obtain rfl : f' = f := Option.some.inj (hfx.symm.trans HF0.out)
  rw [show leavesF (fdsB f'.folds) m.sheets.toNat m.half = ls from HLS.out.symm] at hl
  rw [← HCO.out, ← HRO.out]
  have hb0 : Below w.heap.size w w2 := Below.trans (by exact (by repeat (first | exact Below.refl _ _ | assumption | (refine Below.alloc ?_ ?_ _; rotate_left; · (first | omega | (simp; done) | (simp; omega) | fail)) | (refine Below.setCell ?_ ?_ _; rotate_left; · (first | omega | (simp; done) | (simp; omega) | fail)) | refine Below.drew ?_ | fail))) (hb.mono (by simp; try omega))
  have HL := Lib.hid hl
  obtain ⟨k7, rest, rfl, -⟩ := hl
  rw [← HN7.out] at HL ⊢
  have hz2 := hb0.size
  clear hfx hqx hb hg
  have hb1 : Below w.heap.size w (w2.alloc (.cells (wayC m f'.folds co ro q p.trim (.slice (some ⟨g, 0, none⟩) n7 (n7 + k7))) 107)) := hb0.alloc hz2 _
  have hc1 : (w2.alloc (.cells (wayC m f'.folds co ro q p.trim (.slice (some ⟨g, 0, none⟩) n7 (n7 + k7))) 107)).heap[w2.heap.size]? = some (.cells (wayC m f'.folds co ro q p.trim (.slice (some ⟨g, 0, none⟩) n7 (n7 + k7))) 107 (0, 0)) := World.alloc_heap_new _ _
  have HL1 := Lib.hid (HL.out.later ((Below.refl _ _).alloc (Nat.le_refl _) (.cells (wayC m f'.folds co ro q p.trim (.slice (some ⟨g, 0, none⟩) n7 (n7 + k7))) 107)))
  have hz3 : w2.heap.size < (w2.alloc (.cells (wayC m f'.folds co ro q p.trim (.slice (some ⟨g, 0, none⟩) n7 (n7 + k7))) 107)).heap.size := by simp
  have e1 : ((n6 : Int) != m.sheets) = false := by rw [HMS.out]; simp
  go_upto_region 4 with fail
  dsimp only [wayC] at hb1 hc1 HL1 hz3
  revert hb1 hc1 HL1 hz3
  generalize (w2.alloc (.cells #[.int .i64 m.fmt, .int .i64 m.ppr, .int .i64 m.sheets, .bool m.half, S f'.folds, .int .i64 co, .int .i64 ro, S q.name, .int .i64 q.wlo, .int .i64 q.whi, .int .i64 q.hlo, .int .i64 q.hhi, .int .i64 p.trim, .slice (some ⟨g, 0, none⟩) n7 (n7 + k7)] 107)) = w1
  intro hb1 hc1 HL1 hz3
  clear HL hb0
  have HV1 := Lib.hid (HV.out.later (show Below w.heap.size w w1 from hb1))
  have d2 := blk_cell hc1 2
  have d13 := blk_cell hc1 13
  go_wp2_with fail
  have hWI := within_list 0 1 (hs.map fun (n : Nat) => (n : Int)) gh capv w1 (fun i x hx => cell_later' hb1 (HCH.out i x hx)) (by rw [List.length_map, ← HN6.out]; omega)
  rw [List.length_map, ← HN6.out, show (hs.map fun (n : Nat) => (n : Int)).all (inI 0 1) = true from List.all_eq_true.2 fun x hx => by
    obtain ⟨h, hh, rfl⟩ := List.mem_map.1 hx
    have := H01.out h hh
    unfold inI
    rw [decide_eq_true (p := (0 : Int) ≤ h) (by omega), decide_eq_true (p := (h : Int) ≤ 1) (by omega)]
    rfl] at hWI
  refine hWI.mono ?_
  rintro e w9 ⟨rfl, h9⟩
  obtain rfl := h9.symm
  clear hWI h9
  go_wp2_with fail
  clear d2 d13 e1
  have hs9 : w.heap.size ≤ w1.heap.size := by have := hb1.size; omega
  go_loopw [10, 34] (fun v j wr => ∃ (k : Nat), k ≤ n7 ∧ j = .int .i64 k ∧ Hid (wr.ownsRow w1.heap.size 3 1 v ((List.range k).filter (markAt ls co ro hs)).length (intVs ((List.range k).filter (markAt ls co ro hs)))) ∧ Hid (Below w1.heap.size w1 wr)) (fun _ j _ => n7 - (intOf j).toNat)
  case atStart => exact ⟨0, by omega, rfl, World.ownsRow_nil _ _ _ _, Below.refl _ _⟩
  case round =>
    obtain ⟨k, hk, rfl, HR, HB⟩ := hrel
    have hz := HB.out.size
    by_cases hlt : k < n7
    · obtain ⟨x, hx⟩ : ∃ x, ls[k]? = some x := ⟨_, List.getElem?_eq_getElem (by have := HN7.out; omega)⟩
      have HX := Lib.hid hx
      clear hx
      have hx2 : (leavesW m f')[k]? = some x := by rw [← HLS.out]; exact HX.out
      have HSM := Lib.hid (FN.out.small hx2)
      have hsx : x.sheet < n6 := by
        have := FN.out.sheet hx2
        have := HMS.out
        omega
      obtain ⟨h, hh⟩ : ∃ h, hs[x.sheet]? = some h := ⟨_, List.getElem?_eq_getElem (by rw [← HN6.out]; exact hsx)⟩
      have HH1 := Lib.hid (H01.out h (List.mem_of_getElem? hh))
      have HM2 : Hid (markAt ls co ro hs k = markB co ro h x) := Lib.hid (by
        unfold markAt
        rw [HX.out]
        show markB co ro (hs.getD x.sheet 0) x = _
        rw [List.getD_eq_getElem?_getD, hh]; rfl)
      have q6 := cell_later' HB.out (cell_later' hb1 (HCH.out x.sheet (h : Int) (by rw [List.getElem?_map, hh]; rfl)))
      have HQ6 := Lib.hid q6
      clear hx2 hh q6
      obtain ⟨x0, x1, x2, x3, x4⟩ := leaf_cells (HL1.out.later HB.out) HX.out
      go_wp2_with fail
      obtain ⟨w2, hw2⟩ : ∃ w2, w2 = (wr.alloc (.cells #[.int .i64 x.sheet, .int .i64 x.col, .int .i64 x.row, .bool x.inner, .bool x.turned] 57)) := ⟨_, rfl⟩
      have hb2 : Below w1.heap.size w1 w2 := by rw [hw2]; exact HB.out.alloc (by omega) _
      have hz2 : w1.heap.size ≤ w2.heap.size := hb2.size
      have bx : w2.heap[wr.heap.size]? = some (.cells #[.int .i64 x.sheet, .int .i64 x.col, .int .i64 x.row, .bool x.inner, .bool x.turned] 57 (0, 0)) := by rw [hw2]; exact (by repeat (first | exact heap_alloc_at _ _ _ (by (first | omega | (simp; done) | (simp; omega) | (simp at *; omega) | fail)) | assumption | rw [heap_alloc_past _ _ _ (by (first | omega | (simp; done) | (simp; omega) | (simp at *; omega) | fail))] | rw [heap_setCell_past _ _ _ _ (by (first | omega | (simp; done) | (simp; omega) | (simp at *; omega) | fail))] | fail))
      have q6 : w2.cell? ⟨gh, x.sheet, none⟩ = some (.int .i64 h) := by rw [hw2]; exact cell_later' ((Below.refl _ _).alloc (Nat.le_refl _) _) HQ6.out
      have HR2 := Lib.hid (show w2.ownsRow w1.heap.size 3 1 _ _ _ by rw [hw2]; exact HR.out.alloc _)
      have HL2 := Lib.hid (HL1.out.later hb2)
      have bw := blk_later hb2 hc1
      rw [← hw2]
      clear hw2 x0 x1 x2 x3 x4 HQ6
      have p0 := cell_regrown (blk_cell bx 0)
      have qh := cell_regrown q6
      have t0 := cell_regrown (blk_cell bw 0)
      have t1 := cell_regrown (blk_cell bw 1)
      have t2 := cell_regrown (blk_cell bw 2)
      have t3 := cell_regrown (blk_cell bw 3)
      have t4 := cell_regrown (blk_cell bw 4)
      have t5 := cell_regrown (blk_cell bw 5)
      have t6 := cell_regrown (blk_cell bw 6)
      have t7 := cell_regrown (blk_cell bw 7)
      have t8 := cell_regrown (blk_cell bw 8)
      have t9 := cell_regrown (blk_cell bw 9)
      have t10 := cell_regrown (blk_cell bw 10)
      have t11 := cell_regrown (blk_cell bw 11)
      have t12 := cell_regrown (blk_cell bw 12)
      have t13 := cell_regrown (blk_cell bw 13)
      have cT : ∀ tb : Bool, markB co ro h x = tb → ∀ d' os, Calls Tryz.prog 58 #[.agg (wayC m f'.folds co ro q p.trim (.slice (some ⟨g, 0, none⟩) n7 (n7 + k7))), .int .i64 k, .int .i64 h] (grow (redrawn w2 d') os) (fun e w'' => e = .returned (.bool tb) ∧ ∃ p : Regrown, w'' = grow (redrawn w2 p.d) p.os) := fun tb htb d' os => Calls.regrown_of (by rw [← htb]; exact marked_any m f'.folds co ro q p.trim _ ls g k h x _ (HL2.out.later (below_regrown w2 d' os)) (by have := HN7.out; omega) HX.out HSM.out.1 HSM.out.2 HPW.out.1 HPW.out.2 HH1.out)
      clear bx bw q6
      cases hmb : markB co ro h x with
      | true =>
        have HF := Lib.hid (show markAt ls co ro hs k = true by rw [HM2.out, hmb])
        have c1 := cT true hmb
        clear cT hmb HM2
        refine wp_region_quiet_below (by kernel_rfl) (by kernel_rfl) ?_; (repeat (go_big_quiet_step (with_reducible exact c1 _ _))); refine wpQuiet_nil ?_; rintro w3 ⟨⟨d3, os3⟩, rfl⟩
        have HR3 := Lib.hid (row_later HR2.out (below_regrown w2 d3 os3))
        have HB3 := Lib.hid (hb2.trans ((below_regrown w2 d3 os3).mono hz2))
        have hrl := range_filter_len (markAt ls co ro hs) k
        clear p0 qh t0 t1 t2 t3 t4 t5 t6 t7 t8 t9 t10 t11 t12 t13 c1
        dsimp only
        generalize grow (redrawn w2 d3) os3 = w3 at *
        obtain ⟨hi1, hi2, hi3, hi4⟩ := HI.out
        have hz3 := HB3.out.size
        go_wp2_with (at_builtin; (refine wpList_append_own _ rfl _ _ 39 rfl w1.heap.size 3 ei _ 1 8 undInts hi1 hi2 hi3 hi4 rfl (by decide) u10 ((List.range k).filter (markAt ls co ro hs)).length (intVs ((List.range k).filter (markAt ls co ro hs))) rfl (HR3.out.alloc _) ⟨w3.heap.size, 0, none⟩ 1 1 [.int .i64 k] rfl rfl ?a1 ?b1 ?c1 ?d1 ?e1 ?f1))
        case a1 =>
          intro j u hju
          rw [add_offi]
          unfold World.cell?
          rw [World.alloc_heap_new]
          simpa using hju
        case b1 => simp [Value.oneCell']
        case c1 => simp only [maxLen]; omega
        case d1 => omega
        case e1 => (first | omega | (simp; omega))
        case f1 =>
          rintro v' w7 hown hgrow -
          have HB7 := Lib.hid (HB3.out.trans ((((Below.refl _ w3).alloc (Nat.le_refl _) (.cells #[.int .i64 k] 3)).mono hz3).trans (below_row (HR3.out.alloc _) (by simp; omega) hgrow)))
          have HO := Lib.hid hown
          clear hgrow hown hi1 hi2 hi3 hi4
          go_wp2_with fail
          go_roundw
          case rel => exact ⟨k + 1, by omega, by go_num, (by
            show World.ownsRow _ _ _ _ _ _ _
            rw [range_filter_yes HF.out]
            have h := HO.out
            simpa [intVs] using h), HB7.out⟩
          case measure => simp [intOf]; omega
      | false =>
        have HF := Lib.hid (show markAt ls co ro hs k = false by rw [HM2.out, hmb])
        have c1 := cT false hmb
        clear cT hmb HM2
        refine wp_region_quiet_below (by kernel_rfl) (by kernel_rfl) ?_; (repeat (go_big_quiet_step (with_reducible exact c1 _ _))); refine wpQuiet_nil ?_; rintro w3 ⟨⟨d3, os3⟩, rfl⟩
        have HR3 := Lib.hid (row_later HR2.out (below_regrown w2 d3 os3))
        have HB3 := Lib.hid (hb2.trans ((below_regrown w2 d3 os3).mono hz2))
        clear p0 qh t0 t1 t2 t3 t4 t5 t6 t7 t8 t9 t10 t11 t12 t13 c1
        dsimp only
        generalize grow (redrawn w2 d3) os3 = w3 at *
        go_wp2_with fail
        go_roundw
        case rel => exact ⟨k + 1, by omega, by go_num, (by show World.ownsRow _ _ _ _ _ _ _; rw [range_filter_no HF.out]; exact HR3.out), HB3.out⟩
        case measure => simp [intOf]; omega
    · obtain rfl : k = n7 := by omega
      go_wp2_with fail
      go_ret2
      exact ⟨⟨_, rfl, ints_of_row HR.out⟩, (by exact Below.trans hb1 (HB.out.mono (by omega)))⟩
end Go.Proofs.YtielaaaeecfkoaaGreatDoor

/- A map from places to pages. -/
namespace Go.Proofs.YtielaaaeecfkoaaGreatDoor
set_option linter.unusedSimpArgs false
set_option linter.unusedVariables false
open Go Go.RowKit Go.Sort Go.BigFrame Go.Maps Go.WideMaps

theorem plKeyed : Keyed Tryz.prog 152 := Keyed.of_law (deep_law (m := 2) (by omega) (by kernel_rfl) (by kernel_rfl) (by kernel_rfl))
abbrev plV (s c r : Nat) : Value := .agg #[.int .i64 (s : Int), .int .i64 (c : Int), .int .i64 (r : Int)]
theorem int_wf {n : Nat} (h : n < 1000) : (Lit.int .i64 (n : Int)).wf = true := by
  have h1 : IntKind.i64.min = -9223372036854775808 := by decide
  have h2 : IntKind.i64.max = 9223372036854775807 := by decide
  simp only [Lit.wf, Bool.and_eq_true, decide_eq_true_eq]
  rw [h1, h2]
  omega
theorem int_lits {d n : Nat} (h : n < 1000) : Tryz.prog.keyLits (d + 1) 3 [.int .i64 (n : Int)] = some [.int .i64 (n : Int)] := by
  unfold Program.keyLits
  rw [Tryz.underlying3]
  simp [int_wf h]
theorem pl_key {s c r : Nat} (hs : s < 1000) (hc : c < 1000) (hr : r < 1000) : ∃ l, keyOf Tryz.prog 152 (plV s c r) = some l := by
  unfold keyOf
  rw [Tryz.underlying152]
  simp only
  have h1 : (Tryz.prog.keyType 152 && Value.formed Tryz.prog 152 (plV s c r)) = true := by
    rw [show Tryz.prog.keyType 152 = true by kernel_rfl, Bool.true_and]
    kernel_rfl
  rw [if_pos h1]
  obtain ⟨k, hk⟩ : ∃ k, Tryz.prog.types.size = k + 1 := ⟨Tryz.prog.types.size - 1, by kernel_rfl⟩
  rw [hk]
  unfold Program.keyLits
  rw [Tryz.underlying152]
  simp [Value.cells, show Tryz.prog.cellsOf 3 = 1 by kernel_rfl, show Tryz.prog.cellsOf 152 = 3 by kernel_rfl, int_lits hs, int_lits hc, int_lits hr]

/-- Where a leaf lies: sheet, column, row. -/
abbrev Pl := Nat × Nat × Nat
abbrev plW (q : Pl) : Value := plV q.1 q.2.1 q.2.2
def plOk (q : Pl) : Prop := q.1 < 1000 ∧ q.2.1 < 1000 ∧ q.2.2 < 1000
theorem plW_inj {q r : Pl} (h : plW q = plW r) : q = r := by
  obtain ⟨a, b, c⟩ := q
  obtain ⟨d, e, f⟩ := r
  simp [plW, plV] at h
  obtain ⟨h1, h2, h3⟩ := h
  simp only [Prod.mk.injEq]
  omega
/-- Block b is a map from just these places to these pages. -/
def PlMap (w : World) (b : Nat) (ks : List (Pl × Int)) : Prop :=
  ∃ es clock, w.heap[b]? = some (.map es clock) ∧ es.toList.map (fun e => (e.key, e.val)) = ks.map (fun q => (plW q.1, Value.int .i64 q.2)) ∧ ∀ k ∈ ks, plOk k.1
theorem PlMap.made (w : World) : PlMap (w.alloc (.map #[] 0)) w.heap.size [] := ⟨#[], 0, World.alloc_heap_new w _, rfl, by simp⟩
theorem PlMap.keep {w w' : World} {b : Nat} {ks : List (Pl × Int)} (h : PlMap w b ks) (hs : w'.heap[b]? = w.heap[b]?) : PlMap w' b ks := by
  obtain ⟨es, clock, hb, r⟩ := h
  exact ⟨es, clock, hs.trans hb, r⟩
theorem PlMap.lt {w : World} {b : Nat} {ks : List (Pl × Int)} (h : PlMap w b ks) : b < w.heap.size := by
  obtain ⟨es, clock, hb, r⟩ := h
  exact (Array.getElem?_eq_some_iff.1 hb).1
theorem zeroIntU (w : World) : (zeroValue 3).run Tryz.prog w = .ok (.int .i64 0) w := by kernel_rfl
theorem pl_entry {es : Array MapEntry} {ks : List (Pl × Int)} (hk : es.toList.map (fun e => (e.key, e.val)) = ks.map (fun q => (plW q.1, Value.int .i64 q.2))) {e : MapEntry} (he : e ∈ es.toList) : ∃ k ∈ ks, plW k.1 = e.key ∧ Value.int .i64 k.2 = e.val := by
  have : (e.key, e.val) ∈ es.toList.map (fun e => (e.key, e.val)) := List.mem_map.2 ⟨e, he, rfl⟩
  rw [hk] at this
  obtain ⟨k, h1, h2⟩ := List.mem_map.1 this
  obtain ⟨h3, h4⟩ := Prod.mk.inj h2
  exact ⟨k, h1, h3, h4⟩
theorem pl_keys {es : Array MapEntry} {ks : List (Pl × Int)} (hk : es.toList.map (fun e => (e.key, e.val)) = ks.map (fun q => (plW q.1, Value.int .i64 q.2))) (hs : ∀ k ∈ ks, plOk k.1) :
    ∀ e ∈ es.toList, ∃ l, keyOf Tryz.prog 152 e.key = some l := fun e he => by
  obtain ⟨k, h1, h2, -⟩ := pl_entry hk he
  rw [← h2]
  obtain ⟨a, b, c⟩ := hs k h1
  exact pl_key a b c
/-- What is found at a place. -/
def plGet (ks : List (Pl × Int)) (q : Pl) : Int := match ks.find? (fun k => k.1 == q) with
  | some k => k.2
  | none => 0
theorem PlMap.look {w : World} {b : Nat} {ks : List (Pl × Int)} (h : PlMap w b ks) (hu : (ks.map (·.1)).Nodup) {q : Pl} (hq : plOk q) :
    (Instr.lookup 149 (.map (some b)) (plW q) false).run Tryz.prog w = .ok (.int .i64 (plGet ks q)) w := by
  obtain ⟨es, clock, hb, hk, hsig⟩ := h
  obtain ⟨kl, hkl⟩ := pl_key hq.1 hq.2.1 hq.2.2
  have hck := plKeyed.check w es.isEmpty hkl
  rcases plKeyed.find w hkl es.toList (pl_keys hk hsig) with ⟨hf, hne⟩ | ⟨j, e, hf, hj, he⟩
  · have hg : plGet ks q = 0 := by
      unfold plGet
      rw [List.find?_eq_none.2]
      intro k hkk hkq
      have hkq : k.1 = q := by simpa using hkq
      have : (plW k.1, Value.int .i64 k.2) ∈ es.toList.map (fun e => (e.key, e.val)) := by rw [hk]; exact List.mem_map.2 ⟨k, hkk, rfl⟩
      obtain ⟨e, he, e1⟩ := List.mem_map.1 this
      exact hne e he (by rw [(Prod.mk.inj e1).1, hkq])
    rw [hg]
    simp [Instr.lookup, run_underlying Tryz.underlying149, MapKept.run_getObj_map hb, hck, hf, zeroIntU, Result.andThen]
  · have hem : e ∈ es.toList := List.mem_of_getElem? hj
    obtain ⟨k, h1, h2, h3⟩ := pl_entry hk hem
    have hkq : k.1 = q := plW_inj (h2.trans he)
    have hg : plGet ks q = k.2 := by
      unfold plGet
      cases hfd : ks.find? (fun k => k.1 == q) with
      | none =>
        have := List.find?_eq_none.1 hfd k h1
        simp [hkq] at this
      | some k' =>
        have m1 := List.mem_of_find?_eq_some hfd
        have m2 : k'.1 = q := by simpa using List.find?_some hfd
        have : k' = k := by
          obtain ⟨i, hi⟩ := List.mem_iff_getElem?.1 m1
          obtain ⟨i2, hi2⟩ := List.mem_iff_getElem?.1 h1
          have e1 : (ks.map (·.1))[i]? = some q := by rw [List.getElem?_map, hi]; simp [m2]
          have e2 : (ks.map (·.1))[i2]? = some q := by rw [List.getElem?_map, hi2]; simp [hkq]
          obtain ⟨l1, g1⟩ := List.getElem?_eq_some_iff.1 e1
          obtain ⟨l2, g2⟩ := List.getElem?_eq_some_iff.1 e2
          have : i = i2 := by
            have hp := List.pairwise_iff_getElem.1 hu
            rcases Nat.lt_trichotomy i i2 with h | h | h
            · exact absurd (g1.trans g2.symm) (hp i i2 l1 l2 h)
            · exact h
            · exact absurd (g2.trans g1.symm) (hp i2 i l2 l1 h)
          subst this
          rw [hi] at hi2
          exact Option.some.inj hi2
        show k'.2 = k.2
        rw [this]
    rw [hg]
    simp [Instr.lookup, run_underlying Tryz.underlying149, MapKept.run_getObj_map hb, hck, hf, ← h3, Result.andThen]
/-- A place that is not there yet is stored. -/
theorem PlMap.put {w : World} {b : Nat} {ks : List (Pl × Int)} (h : PlMap w b ks) {q : Pl} {n : Int} (hq : plOk q) (hn : q ∉ ks.map (·.1)) :
    ∃ o, (Instr.mapUpdate 149 (.map (some b)) (plW q) (.int .i64 n)).run Tryz.prog w = .ok () (w.putObj b o) ∧ (∀ w', w'.heap[b]? = some o → PlMap w' b (ks ++ [(q, n)])) := by
  obtain ⟨es, clock, hb, hk, hsig⟩ := h
  obtain ⟨kl, hkl⟩ := pl_key hq.1 hq.2.1 hq.2.2
  have hck := plKeyed.check w false hkl
  rcases plKeyed.find w hkl es.toList (pl_keys hk hsig) with ⟨hf, hne⟩ | ⟨j, e, hf, hj, he⟩
  · refine ⟨.map (es.push { key := plW q, val := .int .i64 n, born := clock }) (clock + 1), ?_, fun w' hw' => ⟨_, _, hw', ?_, ?_⟩⟩
    · simp [Instr.mapUpdate, run_underlying Tryz.underlying149, MapKept.run_getObj_map hb, hck, hf, MapKept.run_setObj_map _ hb, Result.andThen, World.putObj]
    · simp [hk]
    · intro k hk
      simp only [List.mem_append, List.mem_singleton] at hk
      rcases hk with hk | rfl
      · exact hsig k hk
      · exact hq
  · exfalso
    obtain ⟨k, h1, h2, -⟩ := pl_entry hk (List.mem_of_getElem? hj)
    exact hn (List.mem_map.2 ⟨k, h1, plW_inj (h2.trans he)⟩)
end Go.Proofs.YtielaaaeecfkoaaGreatDoor

/- The page of a leaf. -/
namespace Go.Proofs.YtielaaaeecfkoaaGreatDoor
set_option linter.unusedSimpArgs false
set_option linter.unusedVariables false
open Go Go.RowKit Go.Sort Go.BigFrame

set_option maxRecDepth 100000 in
set_option maxHeartbeats 1000000 in
theorem page_any (i : Nat) (x : Fl) (inner : Bool) (w : World) (hi : i ≤ 1000) :
    Calls Tryz.prog 82 #[.int .i64 i, .agg #[.int .i64 x.sheet, .int .i64 x.col, .int .i64 x.row, .bool x.inner, .bool x.turned], .bool inner] w fun e w' => e = .returned (.int .i64 (pageF i x inner)) ∧ Below w.heap.size w w' := by
  obtain ⟨xs, xc, xr, xi, xt⟩ := x
  obtain ⟨z, hz⟩ : ∃ z, z = pageF i ⟨xs, xc, xr, xi, xt⟩ inner := ⟨_, rfl⟩
  rw [← hz]
  have HZ := Lib.hid hz
  clear hz
  cases xi <;> cases inner <;> cases xt <;> skip
  all_goals
    go_enter Tryz.func82, Tryz.ntmps82
    go_wp2_with fail
    go_ret
    refine ⟨by rw [HZ.out]; first | rfl | (unfold pageF; congr 2; simp), ?_⟩
    exact (by repeat (first | exact Below.refl _ _ | assumption | (refine Below.alloc ?_ ?_ _; rotate_left; · (first | omega | (simp; done) | (simp; omega) | fail)) | (refine Below.setCell ?_ ?_ _; rotate_left; · (first | omega | (simp; done) | (simp; omega) | fail)) | refine Below.drew ?_ | fail))
end Go.Proofs.YtielaaaeecfkoaaGreatDoor

/- Which pages a forme has, by a map from places: plain. -/
namespace Go.Proofs.YtielaaaeecfkoaaGreatDoor
set_option linter.unusedSimpArgs false
set_option linter.unusedVariables false
open Go Go.RowKit Go.Sort Go.BigFrame

/-- What the program's map says of each leaf from a number on. -/
def entG (inner : Bool) : Nat → List Fl → List (Pl × Int)
  | _, [] => []
  | j, a :: l => ((a.sheet, a.col, a.row), pageF j a inner) :: entG inner (j + 1) l
theorem entG_len (inner : Bool) : ∀ (l : List Fl) (j : Nat), (entG inner j l).length = l.length
  | [], _ => rfl
  | a :: l, j => by unfold entG; rw [List.length_cons, List.length_cons, entG_len inner l]
theorem entG_at (inner : Bool) : ∀ (l : List Fl) (j i : Nat) (a : Fl), l[i]? = some a → (entG inner j l)[i]? = some ((a.sheet, a.col, a.row), pageF (j + i) a inner)
  | [], _, _, _, h => by simp at h
  | b :: l, j, 0, a, h => by
    obtain rfl : b = a := by simpa using h
    rfl
  | b :: l, j, i + 1, a, h => by
    unfold entG
    rw [List.getElem?_cons_succ, entG_at inner l (j + 1) i a (by simpa using h), show j + 1 + i = j + (i + 1) by omega]
theorem entG_keys (inner : Bool) : ∀ (l : List Fl) (j : Nat), (entG inner j l).map (·.1) = l.map fun a => (a.sheet, a.col, a.row)
  | [], _ => rfl
  | a :: l, j => by unfold entG; rw [List.map_cons, List.map_cons, entG_keys inner l]
theorem entG_get (inner : Bool) (s c r : Nat) : ∀ (l : List Fl) (j : Nat), plGet (entG inner j l) (s, c, r) = match l.findIdx? (fun a => a.sheet == s && a.col == c && a.row == r) with
    | some i => (match l[i]? with | some a => pageF (j + i) a inner | none => 0)
    | none => 0
  | [], _ => rfl
  | a :: l, j => by
    have ih := entG_get inner s c r l (j + 1)
    unfold entG plGet
    rw [List.find?_cons, List.findIdx?_cons]
    cases hb : (a.sheet == s && a.col == c && a.row == r) with
    | true =>
      have : ((a.sheet, a.col, a.row) == (s, c, r)) = true := by
        simp only [Bool.and_eq_true, beq_iff_eq] at hb
        obtain ⟨⟨h1, h2⟩, h3⟩ := hb
        simp [h1, h2, h3]
      simp [this]
    | false =>
      have : ((a.sheet, a.col, a.row) == (s, c, r)) = false := by
        rw [beq_eq_false_iff_ne]
        intro h
        simp only [Prod.mk.injEq] at h
        obtain ⟨h1, h2, h3⟩ := h
        simp [h1, h2, h3] at hb
      simp only [this]
      unfold plGet at ih
      rw [ih]
      cases hf : l.findIdx? (fun a => a.sheet == s && a.col == c && a.row == r) with
      | none => rfl
      | some i =>
        simp only [Option.map_some, List.getElem?_cons_succ]
        rw [show j + 1 + i = j + (i + 1) by omega]
        rfl
/-- What the map says of a place is what the forme has there. -/
theorem ent_spot (ls : List Fl) (inner : Bool) (s c r : Nat) : plGet (entG inner 0 ls) (s, c, r) = (spotF ls s c r inner).getD 0 := by
  rw [entG_get]
  unfold spotF atF
  cases hf : ls.findIdx? (fun a => a.sheet == s && a.col == c && a.row == r) with
  | none => rfl
  | some i =>
    simp only
    cases hl : ls[i]? with
    | none => rfl
    | some a => simp
theorem ent_nodup {ls : List Fl} (h : placesB ls = true) (inner : Bool) : ((entG inner 0 ls).map (·.1)).Nodup := by
  rw [entG_keys]
  refine List.pairwise_iff_getElem.2 fun i j hi hj hij e => ?_
  rw [List.length_map] at hi hj
  rw [List.getElem_map, List.getElem_map] at e
  have := place_ne h hij (List.getElem?_eq_getElem hj) (List.getElem?_eq_getElem hi)
  simp only [Prod.mk.injEq] at e
  exact this ⟨e.1.symm, e.2.1.symm, e.2.2.symm⟩
/-- The pages of a forme, up to a row, and up to a column of the next one. -/
def foR (ls : List Fl) (inner : Bool) (s r c : Nat) : List Int := (List.range c).map fun c => plGet (entG inner 0 ls) (s, c, r)
def foA (ls : List Fl) (inner : Bool) (s cols r : Nat) : List Int := (List.range r).flatMap fun r => foR ls inner s r cols
theorem foR_succ (ls : List Fl) (inner : Bool) (s r c : Nat) : foR ls inner s r (c + 1) = foR ls inner s r c ++ [plGet (entG inner 0 ls) (s, c, r)] := by simp [foR, List.range_succ]
theorem foA_succ (ls : List Fl) (inner : Bool) (s cols r : Nat) : foA ls inner s cols (r + 1) = foA ls inner s cols r ++ foR ls inner s r cols := by simp [foA, List.range_succ]
theorem foA_is (ls : List Fl) (inner : Bool) (s cols rows : Nat) : foA ls inner s cols rows = formeF ls rows cols s inner := by
  unfold foA foR formeF
  congr 1
  funext r
  congr 1
  funext c
  exact ent_spot ls inner s c r
theorem foR_len (ls : List Fl) (inner : Bool) (s r c : Nat) : (foR ls inner s r c).length = c := by simp [foR]
theorem foA_len (ls : List Fl) (inner : Bool) (s cols : Nat) : ∀ r, (foA ls inner s cols r).length = r * cols
  | 0 => by simp [foA]
  | r + 1 => by rw [foA_succ, List.length_append, foA_len ls inner s cols r, foR_len, Nat.succ_mul]
def intZs (xs : List Int) : List Value := xs.map fun n => Value.int .i64 n
theorem ints_of_rowZ {W : World} {base : Nat} {v : Value} {e : TypeId} {xs : List Int} (h : W.ownsRow base e 1 v xs.length (intZs xs)) : IntsAt W v xs := by
  rcases h.2 with ⟨rfl, h0⟩ | ⟨g, cap, cur, rfl, hb, hg, rest⟩
  · exact ⟨none, 0, by rw [h0], fun hne => absurd (List.length_eq_zero_iff.1 h0) hne⟩
  · refine ⟨_, cap, rfl, fun _ => ⟨g, rfl, blk_lt hg, fun i x hx => ?_⟩⟩
    have hc := h.cells (g := g) (by simp [Value.ownBlock])
    have := hc i (.int .i64 x) (by rw [intZs, List.getElem?_map, hx]; rfl)
    rwa [add_offi] at this
end Go.Proofs.YtielaaaeecfkoaaGreatDoor

/- A region that draws its order: its first operations only read, or call what makes blocks of its own; the others come behind them, one after the other. One walk serves all orders. -/
namespace Go.Proofs.YtielaaaeecfkoaaGreatDoor
set_option linter.unusedSimpArgs false
set_option linter.unusedVariables false
open Go Go.RowKit Go.Sort

section
variable {P : Program} {ops : Array Oper} {md : Region.Mode} {C : World → Prop}

/-- The head's operations in whatever order: each that may come up is of the head, and quiet; L is what holds behind them. -/
def HeadQ (P : Program) (md : Region.Mode) (ops : Array Oper) (C : World → Prop) (n : Nat) (L : Array Bool → Act → Prop) : Nat → Array Bool → Act → Prop
  | 0, s, a => L s a
  | f + 1, s, a => (∃ i, i ∈ Region.ready md ops s) ∧ ∀ i ∈ Region.ready md ops s, i < n ∧ qOp P ops C i (HeadQ P md ops C n L f (s.setIfInBounds i true)) a

theorem headQ_any {n g : Nat} {L : Array Bool → Act → Prop} {R : Exit → Act → World → Prop} (hL : ∀ s a w, C w → L s a → wpAny P md ops R g s a w) :
    ∀ (f : Nat) (s : Array Bool) (a : Act) (w : World), C w → HeadQ P md ops C n L f s a → wpAny P md ops R (f + g) s a w := by
  intro f
  induction f with
  | zero => intro s a w hw h; simpa using hL s a w hw h
  | succ f ih =>
    intro s a w hw h
    have e : f + 1 + g = (f + g) + 1 := by omega
    rw [e]
    obtain ⟨⟨i0, h0⟩, h⟩ := h
    refine ⟨fun hn => ?_, fun i hi => wpOp_of_qOp hw (fun a' w' hw' hq => ih _ a' w' hw' hq) (h i hi).2⟩
    rw [hn] at h0
    cases h0

theorem unlisted_on {s : Array Bool} {i : Nat} (h1 : s.getD i true = false) (h2 : s.getD i false = true) : False := by
  rw [getD_both h1] at h2
  cases h2

/-- Each operation of the head is waited for by one behind it that is no farther than n, unless it is one of the first p. -/
def sinkP (md : Region.Mode) (ops : Array Oper) (p n : Nat) : Bool :=
  (List.range n).all fun i => decide (i < p) || (List.range (n + 1)).any fun j => decide (i < j) && Region.waitsFor md ops j i

theorem waits_on {s : Array Bool} {i j : Nat} (h : Region.waitsFor md ops j i = true) (hj : ∀ oj, ops[j]? = some oj → ∀ e ∈ oj.after, Region.binds md e = true → s.getD e.on false = true) (hi : s.getD i true = false) : False := by
  obtain ⟨oj, hoj, e, he, hb, hon⟩ := Region.waitsFor_spec h
  exact unlisted_on hi (hon ▸ hj oj hoj e he hb)

theorem tail_later {p n : Nat} {s : Array Bool} (hs : sinkP md ops p n = true) (hc : Region.chainB md ops n = true) (hn : n < ops.size) (inv : HeadInv md ops n s) :
    ∀ (d i : Nat), n - i ≤ d → p ≤ i → i < n → s.getD i true = false → ∀ t, n ≤ t → t ∉ Region.ready md ops s := by
  intro d
  induction d with
  | zero => intro i hd _ hi; omega
  | succ d ih =>
    intro i hd hpi hi hun t ht hr
    obtain ⟨_, ot, hot, hall⟩ := mem_ready.1 hr
    have htz : t < ops.size := (Array.getElem?_eq_some_iff.1 hot).1
    have hat : ∀ oj, ops[t]? = some oj → ∀ e ∈ oj.after, Region.binds md e = true → s.getD e.on false = true := fun oj hoj => by
      rw [hot] at hoj
      cases hoj
      exact hall
    rcases Nat.lt_or_ge n t with hlt | hle
    · have h1 := List.all_eq_true.1 hc t (List.mem_range.2 htz)
      simp only [Bool.or_eq_true, decide_eq_true_eq] at h1
      rcases h1 with h1 | h1
      · omega
      · exact waits_on h1 hat (inv.tail (t - 1) (by omega) (by omega))
    · have e : t = n := by omega
      subst e
      have h1 := List.all_eq_true.1 hs i (List.mem_range.2 hi)
      simp only [Bool.or_eq_true, decide_eq_true_eq, List.any_eq_true, List.mem_range, Bool.and_eq_true] at h1
      rcases h1 with h1 | ⟨j, hj, hij, hw⟩
      · omega
      · rcases Nat.lt_or_ge j t with hjt | hjt
        · cases hl : s.getD j false with
          | true => exact waits_on hw (fun oj hoj => inv.closed j oj hoj hl) hun
          | false => exact ih j (by omega) (by omega) hjt (getD_in (by rw [inv.size]; omega) hl) t (Nat.le_refl _) hr
        · have e : j = t := by omega
          subst e
          exact waits_on hw hat hun

theorem headQ_first {p n i : Nat} {o : Oper} {v : Value} {L : Array Bool → Act → Prop} (ho : ops[i]? = some o) (hsel : ∀ (j : Nat) (o : Oper) cs b, ops[j]? = some o → o.op ≠ .select cs b)
    (hs : sinkP md ops p n = true) (hc : Region.chainB md ops n = true) (hn : n < ops.size) (hpi : p ≤ i) (hin : i < n) (hend : ∀ s a, L s a → ∀ j ∈ Region.ready md ops s, n ≤ j) :
    ∀ (f : Nat) (s : Array Bool) (a : Act), HeadInv md ops n s →
      (∀ j oj, ops[j]? = some oj → j ≠ i → s.getD j true = false → (∀ e ∈ oj.after, Region.binds md e = true → e.on ≠ i) → o.apart ops oj = true) →
      i ∈ Region.ready md ops s → YieldsIn P ops C o v a → HeadQ P md ops C n L f (s.setIfInBounds i true) (a.put o.dst v) → HeadQ P md ops C n L (f + 1) s a := by
  intro f
  induction f with
  | zero =>
    intro s a inv _ hi hy H
    refine ⟨⟨i, hi⟩, fun j hj => ?_⟩
    have hjn : j < n := Nat.lt_of_not_le fun hle => tail_later hs hc hn inv _ i (Nat.le_refl _) hpi hin (mem_ready.1 hi).1 j hle hj
    by_cases e : j = i
    · subst e
      exact ⟨hjn, hy.qOp ho H⟩
    · have := hend _ _ H j (ready_mono hj e)
      omega
  | succ f ih =>
    intro s a inv hfree hi hy H
    refine ⟨⟨i, hi⟩, fun j hj => ?_⟩
    have hjn : j < n := Nat.lt_of_not_le fun hle => tail_later hs hc hn inv _ i (Nat.le_refl _) hpi hin (mem_ready.1 hi).1 j hle hj
    refine ⟨hjn, ?_⟩
    by_cases e : j = i
    · subst e
      exact hy.qOp ho H
    · obtain ⟨hun, oj, hoj, hafter⟩ := mem_ready.1 hj
      have hno : ∀ e ∈ oj.after, Region.binds md e = true → e.on ≠ i := fun e he hb q => unlisted_on (mem_ready.1 hi).1 (q ▸ hafter e he hb)
      have hq := qOp_put hoj (hfree j oj hoj e hun hno) (fun cs b => hsel i o cs b ho) (fun cs b => hsel j oj cs b hoj) hy (H.2 j (ready_mono hj e)).2
      refine qOp_mono (fun a' hk => ih _ a' (inv.set hj hjn) (fun k ok hk2 hki hun2 hno2 => hfree k ok hk2 hki ?_ hno2) (ready_mono hi (Ne.symm e)) hk.1 ?_) hq
      · by_cases q : j = k
        · subst q; exact hun
        · rwa [getD_set_ne true q] at hun2
      · rw [Array.setIfInBounds_comm _ _ e]
        exact hk.2

theorem headQ_lex {p n g : Nat} {K : Act → Prop} (hsel : Region.noSelect ops = true) (hs : sinkP md ops p n = true) (hc : Region.chainB md ops n = true) (hn : n < ops.size) :
    ∀ (l : List Oper) (k : Nat) (s : Array Bool) (a : Act), (∀ j, j < l.length → l[j]? = ops[k + j]?) → p ≤ k → k + l.length = n → HeadInv md ops n s →
      Region.lexHead md ops g l.length k s = true → wpQuiet P ops C K l a → HeadQ P md ops C n (fun s' a' => Region.seqB md ops g n s' = true ∧ K a') l.length s a := by
  intro l
  induction l with
  | nil =>
    intro k s a _ _ hk _ hB h
    have e : k = n := by simpa using hk
    subst e
    exact ⟨by simpa [Region.lexHead] using hB, h⟩
  | cons o l ih =>
    intro k s a hl hpk hk inv hB h
    have ho : ops[k]? = some o := by simpa using (hl 0 (by simp)).symm
    simp only [List.length_cons] at hk
    simp only [List.length_cons, Region.lexHead, Bool.and_eq_true] at hB
    obtain ⟨⟨hr, hf⟩, hB⟩ := hB
    have hr : k ∈ Region.ready md ops s := by simpa using hr
    have hq : qOp P ops C k (wpQuiet P ops C K l) a := by
      unfold qOp
      simp only [ho]
      exact h
    obtain ⟨v, hy, hK⟩ := yieldsIn_of_qOp ho hq
    refine headQ_first ho (Region.noSelect_spec hsel) hs hc hn hpk (by omega) (fun _ _ hL => seqB_ready hL.1) l.length s a inv (Region.free_spec ho hf) hr hy
      (ih (k + 1) _ _ (fun j hj => ?_) (by omega) (by omega) (inv.set hr (by omega)) hB hK)
    have := hl (j + 1) (by simp only [List.length_cons]; omega)
    simpa [Nat.add_assoc, Nat.add_comm 1 j] using this

/-- The first operations, which only copy: what they leave. -/
def leadV (o : Oper) (a : Act) : Value := match o.op with
  | .move x => a.eval x
  | _ => undef
def leadA : List Oper → Act → Act
  | [], a => a
  | o :: l, a => leadA l (a.put o.dst (leadV o a))
def leadS : Nat → List Oper → Array Bool → Array Bool
  | _, [], s => s
  | k, _ :: l, s => leadS (k + 1) l (s.setIfInBounds k true)
def isMove (o : Oper) : Bool := o.guard.isNone && match o.op with
  | .move _ => true
  | _ => false
def leadB (md : Region.Mode) (ops : Array Oper) : Nat → List Oper → Array Bool → Bool
  | _, [], _ => true
  | k, o :: l, s => isMove o && (Region.ready md ops s).contains k && Region.free md ops s k && leadB md ops (k + 1) l (s.setIfInBounds k true)

theorem move_yields {o : Oper} {a : Act} (h : isMove o = true) : Yields P ops o (leadV o a) a := by
  unfold isMove at h
  simp only [Bool.and_eq_true, Option.isNone_iff_eq_none] at h
  obtain ⟨hg, hm⟩ := h
  cases ho : o.op <;> simp only [ho] at hm <;> try (cases hm)
  rename_i x
  refine Or.inl ⟨by unfold Region.wanted; rw [hg], fun w => ?_⟩
  unfold leadV
  rw [ho]
  simp [execOp, ho, go_sem]

theorem lead_first {R : Exit → Act → World → Prop} (hsel : Region.noSelect ops = true) (hR : ∀ c a b w, R (.panic c) a w → R (.panic c) b w) :
    ∀ (l : List Oper) (k : Nat) (s : Array Bool) (a : Act) (f : Nat) (w : World), (∀ j, j < l.length → l[j]? = ops[k + j]?) → leadB md ops k l s = true →
      wpAny P md ops R f (leadS k l s) (leadA l a) w → wpAny P md ops R (l.length + f) s a w := by
  intro l
  induction l with
  | nil => intro k s a f w _ _ h; simpa [leadS, leadA] using h
  | cons o l ih =>
    intro k s a f w hl hB h
    have ho : ops[k]? = some o := by simpa using (hl 0 (by simp)).symm
    simp only [leadB, Bool.and_eq_true] at hB
    obtain ⟨⟨⟨hm, hr⟩, hf⟩, hB⟩ := hB
    have e : (o :: l).length + f = (l.length + f) + 1 := by simp only [List.length_cons]; omega
    rw [e]
    refine wpAny_first (v := leadV o a) ho (Region.noSelect_spec hsel) (fun c a w h => hR c _ _ w h) _ s a w (Region.free_spec ho hf) (by simpa using hr) (move_yields hm) ?_
    refine ih (k + 1) _ _ f w (fun j hj => ?_) hB h
    have := hl (j + 1) (by simp only [List.length_cons]; omega)
    simpa [Nat.add_assoc, Nat.add_comm 1 j] using this

theorem lead_inv {n : Nat} : ∀ (l : List Oper) (k : Nat) (s : Array Bool), k + l.length ≤ n → leadB md ops k l s = true → HeadInv md ops n s → HeadInv md ops n (leadS k l s) := by
  intro l
  induction l with
  | nil => intro k s _ _ h; exact h
  | cons o l ih =>
    intro k s hk hB h
    simp only [List.length_cons] at hk
    simp only [leadB, Bool.and_eq_true] at hB
    obtain ⟨⟨⟨_, hr⟩, _⟩, hB⟩ := hB
    exact ih (k + 1) _ (by omega) hB (h.set (by simpa using hr) (by omega))

/-- What is asked of the operations' order: the first p only copy; those up to n only read, or call; the others come one after the other. -/
def tailB (ops : List Oper) (p n : Nat) : Bool :=
  Region.noSelect ops.toArray && decide (p ≤ n) && decide (n < ops.length) && sinkP .any ops.toArray p n && Region.chainB .any ops.toArray n && leadB .any ops.toArray 0 (ops.take p) (Array.replicate ops.length false) &&
    Region.lexHead .any ops.toArray (ops.length - n) (n - p) p (leadS 0 (ops.take p) (Array.replicate ops.length false))

theorem wp_region_lead_tail {id : Nat} {Q : Exit → Act → World → Prop} {a : Act} {w : World} {l : List Oper} (p n : Nat) (hm : P.follows .mixedOrders = true) (hB : tailB l p n = true) (hR : ∀ c a b w, Q (.panic c) a w → Q (.panic c) b w)
    (hC : C { w with drawn := w.drawn + 1 })
    (h : wpQuiet P l.toArray C (fun a' => ∀ w', C w' → wpList P l.toArray Q (l.drop n) a' w') ((l.take n).drop p) (leadA (l.take p) a)) : (Code.region id l.toArray true).wp P Q a w := by
  simp only [tailB, Bool.and_eq_true, decide_eq_true_eq] at hB
  obtain ⟨⟨⟨⟨⟨⟨hsel, hpn⟩, hn⟩, hs⟩, hc⟩, hld⟩, hlex⟩ := hB
  have h0 : (l.take p).length = p := by simp; omega
  have h1 : ((l.take n).drop p).length = n - p := by simp; omega
  have h2 : (l.drop n).length = l.length - n := by simp
  have inv0 : HeadInv .any l.toArray n (Array.replicate l.length false) :=
    ⟨by simp, fun j oj _ hl => (by rw [getD_replicate_false] at hl; cases hl), fun t _ ht => getD_in (by simpa using ht) (getD_replicate_false _ _)⟩
  have inv := lead_inv (l.take p) 0 _ (by rw [h0]; omega) hld inv0
  have H := headQ_lex (md := .any) (g := l.length - n) hsel hs hc (by simpa using hn) ((l.take n).drop p) p _ (leadA (l.take p) a) (fun j hj => by
    rw [h1] at hj
    simp [List.getElem?_drop, show p + j < n by omega]) (Nat.le_refl _) (by rw [h1]; omega) inv (by rw [h1]; exact hlex) h
  refine wp_region_any hm ?_
  have := headQ_any (R := Q) (g := l.length - n) (fun s a' w' hw hL => by
    have := wpAny_of_seq (md := .any) (Q' := Q) (l.drop n) n s a' w' (fun j => by simp [List.getElem?_drop]) (by rw [h2]; exact hL.1) (hL.2 w' hw)
    rwa [h2] at this) _ _ _ _ hC H
  rw [h1] at this
  have := lead_first (R := Q) hsel hR (l.take p) 0 (Array.replicate l.length false) a _ _ (fun j hj => by rw [h0] at hj; simp [hj]) hld this
  rw [h0] at this
  have e : p + (n - p + (l.length - n)) = l.toArray.size := by simp; omega
  rw [e] at this
  simpa using this

/-- The same, with what follows behind a variable: the operations of the tail do not panic. -/
theorem wp_region_below_tail {id : Nat} {Q : Exit → Act → World → Prop} {a : Act} {w : World} {l : List Oper} (p n : Nat) (hm : P.follows .mixedOrders = true) (hB : tailB l p n = true)
    (h : ∀ R : Exit → Act → World → Prop, (∀ a w, Q .normal a w → R .normal a w) →
      wpQuiet P l.toArray (fun w' => ∃ p : Regrown, w' = grow (redrawn w p.d) p.os) (fun a' => ∀ w', (∃ p : Regrown, w' = grow (redrawn w p.d) p.os) → wpList P l.toArray R (l.drop n) a' w') ((l.take n).drop p) (leadA (l.take p) a)) : (Code.region id l.toArray true).wp P Q a w := by
  have := wp_region_lead_tail (Q := fun e a w => e = .normal ∧ Q .normal a w) (id := id) (C := fun w' => ∃ p : Regrown, w' = grow (redrawn w p.d) p.os) p n hm hB (fun c a b w h => by cases h.1) ⟨⟨w.drawn + 1, #[]⟩, by rw [grow_empty]; rfl⟩ (h _ (fun a w h => ⟨rfl, h⟩))
  exact Code.wp_mono (fun e a w ⟨he, hq⟩ => by rw [he]; exact hq) this
end
end Go.Proofs.YtielaaaeecfkoaaGreatDoor

/- The pages of a forme. -/
namespace Go.Proofs.YtielaaaeecfkoaaGreatDoor
set_option linter.unusedSimpArgs false
set_option linter.unusedVariables false
open Go Go.RowKit Go.Sort Go.BigFrame

set_option maxRecDepth 100000 in
set_option maxHeartbeats 4000000 in
theorem forme_any (m : Mkw) (s : Bs) (co ro : Int) (q : Ppr) (tr : Int) (lv : Value) (ls : List Fl) (g sh : Nat) (inner : Bool) (w : World) (hl : LeavesAt w lv ls g) (hn : ls.length ≤ 64) (hP : placesB ls = true) (hok : ∀ a ∈ ls, plOk (a.sheet, a.col, a.row))
    (hsh : sh < 1000) (hs1 : 1 ≤ s.length) (hs4 : s.length ≤ 4) (hs2 : m.half = true → 2 ≤ s.length) (hs : s.all fdB = true) :
    Calls Tryz.prog 53 #[.agg (wayC m s co ro q tr lv), .int .i64 sh, .bool inner] w fun e w' => (∃ v', e = .returned v' ∧ w'.ownsRow w.heap.size 3 1 v' (formeF ls (rowsF (madeF (fdsB s) m.half)) (colsF (madeF (fdsB s) m.half)) sh inner).length (intZs (formeF ls (rowsF (madeF (fdsB s) m.half)) (colsF (madeF (fdsB s) m.half)) sh inner))) ∧ Below w.heap.size w w' := by
  have HL := Lib.hid hl
  obtain ⟨k7, rest, rfl, -⟩ := hl
  obtain ⟨n7, hn7⟩ : ∃ n, n = ls.length := ⟨_, rfl⟩
  rw [← hn7] at HL hn ⊢
  have HN := Lib.hid hn7
  obtain ⟨F, hF⟩ : ∃ F, F = madeF (fdsB s) m.half := ⟨_, rfl⟩
  have hFb : bytesF F = if m.half then s.drop 1 else s := by rw [hF]; exact made_bytes hs m.half
  have hF14 : 1 ≤ F.length ∧ F.length ≤ 4 := by
    rw [hF]
    unfold madeF fdsB
    cases hm : m.half with
    | false => simp; omega
    | true => have := hs2 hm; simp; omega
  obtain ⟨R, hR⟩ : ∃ R, R = rowsF F := ⟨_, rfl⟩
  obtain ⟨C, hC⟩ : ∃ C, C = colsF F := ⟨_, rfl⟩
  rw [← hF, ← hR, ← hC]
  have hpw := pows_all F (allFolds_mem hF14.1 hF14.2)
  rw [← hR, ← hC] at hpw
  have hR16 : R ≤ 16 := by have := hpw.2; unfold pows at this; simp only [List.mem_cons, List.not_mem_nil, or_false] at this; omega
  have hC16 : C ≤ 16 := by have := hpw.1; unfold pows at this; simp only [List.mem_cons, List.not_mem_nil, or_false] at this; omega
  have HF := Lib.hid (And.intro hFb (And.intro hF14.1 (And.intro hF14.2 (And.intro hR hC))))
  have HS14 := Lib.hid (And.intro hs1 hs4)
  have HPL := Lib.hid hP
  have HOK := Lib.hid hok
  clear hn7 hFb hF14 hR hC hpw hF hs1 hs4 hs2 hs hP hok
  have hb0 : Below w.heap.size w ((w.alloc (.cells (wayC m s co ro q tr (.slice (some ⟨g, 0, none⟩) n7 (n7 + k7))) 107)).alloc (.map #[] 0)) := ((Below.refl _ _).alloc (Nat.le_refl _) _).alloc (by simp) _
  have hc1 : ((w.alloc (.cells (wayC m s co ro q tr (.slice (some ⟨g, 0, none⟩) n7 (n7 + k7))) 107)).alloc (.map #[] 0)).heap[w.heap.size]? = some (.cells (wayC m s co ro q tr (.slice (some ⟨g, 0, none⟩) n7 (n7 + k7))) 107 (0, 0)) := by exact (by repeat (first | exact heap_alloc_at _ _ _ (by (first | omega | (simp; done) | (simp; omega) | (simp at *; omega) | fail)) | assumption | rw [heap_alloc_past _ _ _ (by (first | omega | (simp; done) | (simp; omega) | (simp at *; omega) | fail))] | rw [heap_setCell_past _ _ _ _ (by (first | omega | (simp; done) | (simp; omega) | (simp at *; omega) | fail))] | fail))
  have hm1 : PlMap ((w.alloc (.cells (wayC m s co ro q tr (.slice (some ⟨g, 0, none⟩) n7 (n7 + k7))) 107)).alloc (.map #[] 0)) (w.heap.size + 1) [] := by
    have := PlMap.made (w.alloc (.cells (wayC m s co ro q tr (.slice (some ⟨g, 0, none⟩) n7 (n7 + k7))) 107))
    simpa using this
  have d13 := blk_cell hc1 13
  obtain ⟨ei, hi1, hi2, hi3, hi4⟩ := elemInt
  have HI := Lib.hid (And.intro hi1 (And.intro hi2 (And.intro hi3 hi4)))
  clear hi1 hi2 hi3 hi4
  have hmm := @run_makeMap Tryz.prog
  go_enter Tryz.func53, Tryz.ntmps53
  go_wp2_with fail
  revert hb0 hc1 hm1 d13
  generalize ((w.alloc (.cells (wayC m s co ro q tr (.slice (some ⟨g, 0, none⟩) n7 (n7 + k7))) 107)).alloc (.map #[] 0)) = w1
  intro hb0 hc1 hm1 d13
  have HL1 := Lib.hid (HL.out.later hb0)
  have HM1 := Lib.hid hm1
  clear hm1
  have hs9 : w.heap.size ≤ w1.heap.size := hb0.size
  clear hmm
  have hb9 : w1.heap.size = w.heap.size + 2 ∨ True := Or.inr trivial
  obtain ⟨bm, hbm⟩ : ∃ b, b = w.heap.size + 1 := ⟨_, rfl⟩
  rw [← hbm] at HM1 ⊢
  have hbw : w.heap.size ≤ bm := by omega
  have hbw2 : w.heap.size ≠ bm := by omega
  have hg9 : g < w.heap.size := by
    obtain ⟨_, _, -, hgx, -⟩ := HL.out
    exact blk_lt hgx
  have hbg : g ≠ bm := by omega
  clear hbm hb9
  go_loopw [19] (fun j wr => ∃ (k : Nat), k ≤ n7 ∧ j = .int .i64 k ∧ Hid (PlMap wr bm ((entG inner 0 ls).take k)) ∧ Hid (OnlyIn (· = bm) w1 wr)) (fun j _ => n7 - (intOf j).toNat)
  case atStart => exact ⟨0, by omega, rfl, HM1.out, OnlyIn.refl _ _⟩
  case round =>
    obtain ⟨k, hk, rfl, HM, HO⟩ := hrel
    have hz := HO.out.size
    by_cases hlt : k < n7
    · obtain ⟨x, hx⟩ : ∃ x, ls[k]? = some x := ⟨_, List.getElem?_eq_getElem (by have := HN.out; omega)⟩
      have HX := Lib.hid hx
      have hxo := HOK.out x (List.mem_of_getElem? hx)
      have HXO := Lib.hid hxo
      have hnk : (x.sheet, x.col, x.row) ∉ ((entG inner 0 ls).take k).map (·.1) := by
        intro hm
        rw [List.map_take, entG_keys] at hm
        obtain ⟨i, hi⟩ := List.mem_iff_getElem?.1 hm
        rw [List.getElem?_take] at hi
        split at hi
        · rename_i hik
          rw [List.getElem?_map] at hi
          obtain ⟨y, hy, e⟩ := Option.map_eq_some_iff.1 hi
          have := place_ne HPL.out hik hx hy
          simp only [Prod.mk.injEq] at e
          exact this ⟨e.1.symm, e.2.1.symm, e.2.2.symm⟩
        · cases hi
      have HNK := Lib.hid hnk
      have htk : (entG inner 0 ls).take (k + 1) = (entG inner 0 ls).take k ++ [((x.sheet, x.col, x.row), pageF k x inner)] := by
        rw [List.take_add_one, entG_at inner ls 0 k x hx, Nat.zero_add]; rfl
      have HTK := Lib.hid htk
      obtain ⟨r0, r1, r2, r3, r4⟩ := leaf_cells HL1.out hx
      have hg1 : g < w1.heap.size := lt_of_cell r0
      have x0 := (only_cell HO.out hg1 hbg).trans r0
      have x1 := (only_cell HO.out hg1 hbg).trans r1
      have x2 := (only_cell HO.out hg1 hbg).trans r2
      have x3 := (only_cell HO.out hg1 hbg).trans r3
      have x4 := (only_cell HO.out hg1 hbg).trans r4
      clear hx hxo hnk htk r0 r1 r2 r3 r4
      go_wp2_with fail
      obtain ⟨w2, hw2⟩ : ∃ w2, w2 = (wr.alloc (.cells #[.int .i64 x.sheet, .int .i64 x.col, .int .i64 x.row, .bool x.inner, .bool x.turned] 57)) := ⟨_, rfl⟩
      have hb2 : Below wr.heap.size wr w2 := by rw [hw2]; exact (Below.refl _ _).alloc (Nat.le_refl _) _
      have bx : w2.heap[wr.heap.size]? = some (.cells #[.int .i64 x.sheet, .int .i64 x.col, .int .i64 x.row, .bool x.inner, .bool x.turned] 57 (0, 0)) := by rw [hw2]; exact (by repeat (first | exact heap_alloc_at _ _ _ (by (first | omega | (simp; done) | (simp; omega) | (simp at *; omega) | fail)) | assumption | rw [heap_alloc_past _ _ _ (by (first | omega | (simp; done) | (simp; omega) | (simp at *; omega) | fail))] | rw [heap_setCell_past _ _ _ _ (by (first | omega | (simp; done) | (simp; omega) | (simp at *; omega) | fail))] | fail))
      have HM2 := Lib.hid (HM.out.keep (hb2.block bm HM.out.lt))
      have HO2 := Lib.hid (HO.out.trans (OnlyIn.of_below hb2))
      rw [← hw2]
      clear hw2 x0 x1 x2 x3 x4 hb2 HO HM
      have p0 := cell_regrown (blk_cell bx 0)
      have p1 := cell_regrown (blk_cell bx 1)
      have p2 := cell_regrown (blk_cell bx 2)
      have p3 := cell_regrown (blk_cell bx 3)
      have p4 := cell_regrown (blk_cell bx 4)
      obtain ⟨pg, hpg⟩ : ∃ pg, pg = pageF k x inner := ⟨_, rfl⟩
      have c1 : ∀ d' os, Calls Tryz.prog 82 #[.int .i64 k, .agg #[.int .i64 x.sheet, .int .i64 x.col, .int .i64 x.row, .bool x.inner, .bool x.turned], .bool inner] (grow (redrawn w2 d') os) (fun e w'' => e = .returned (.int .i64 pg) ∧ ∃ p : Regrown, w'' = grow (redrawn w2 p.d) p.os) := fun d' os => Calls.regrown_of (by rw [hpg]; exact page_any k x inner _ (by omega))
      have HPG := Lib.hid hpg
      clear bx hpg
      refine wp_region_below_tail 0 12 (by kernel_rfl) (by kernel_rfl) fun R hR => ?_; simp only [List.take_succ_cons, List.take_zero, List.drop_succ_cons, List.drop_zero, leadA, leadV, Act.put, Act.eval, List.setIfInBounds_toArray, List.set_cons_zero, List.set_cons_succ, Array.getD_eq_getD_getElem?, List.getElem?_toArray, List.getElem?_cons_zero, List.getElem?_cons_succ, Option.getD_some]; (repeat (go_big_quiet_step (exact c1 _ _))); refine wpQuiet_nil ?_; rintro w6 ⟨⟨d6, os6⟩, rfl⟩; have hR := Lib.hid hR
      have hb6 := below_regrown w2 d6 os6
      have HM6 := Lib.hid (HM2.out.keep (hb6.block bm HM2.out.lt))
      have HO6 := Lib.hid (HO2.out.trans (OnlyIn.of_below hb6))
      clear p0 p1 p2 p3 p4 c1 hb6 HM2 HO2
      dsimp only
      generalize grow (redrawn w2 d6) os6 = w6 at *
      obtain ⟨o, hput, hmap⟩ := HM6.out.put (q := (x.sheet, x.col, x.row)) (n := pg) HXO.out HNK.out
      have HMP := Lib.hid hmap
      have hput2 : (Instr.mapUpdate 149 (.map (some bm)) (.agg #[.int .i64 x.sheet, .int .i64 x.col, .int .i64 x.row]) (.int .i64 pg)).run Tryz.prog w6 = .ok () (w6.putObj bm o) := hput
      clear hput hmap
      go_wp2_with fail
      refine ⟨⟨k + 1, by omega, by go_num, ?_, ?_⟩, by simp [intOf]; omega⟩
      · show PlMap _ _ _
        rw [HTK.out, ← HPG.out]
        exact HMP.out _ (World.putObj_heap_same HM6.out.lt)
      · exact HO6.out.trans (OnlyIn.putObj _ _ _ rfl)
    · obtain rfl : n7 = k := by omega
      have HMF := Lib.hid (show PlMap wr bm (entG inner 0 ls) by
        have := HM.out
        rwa [List.take_of_length_le (by rw [entG_len, ← HN.out]; exact Nat.le_refl _)] at this)
      have hc2 := (HO.out.block _ (blk_lt hc1) hbw2).trans hc1
      have hbA : Below w.heap.size w wr := HO.out.below hb0 hs9 (fun k hk => by rw [hk]; exact hbw)
      clear hk hlt HM hc1 hb0 d13 HL1 HM1
      have t0 := blk_cell hc2 0
      have t1 := blk_cell hc2 1
      have t2 := blk_cell hc2 2
      have t3 := blk_cell hc2 3
      have t4 := blk_cell hc2 4
      have t5 := blk_cell hc2 5
      have t6 := blk_cell hc2 6
      have t7 := blk_cell hc2 7
      have t8 := blk_cell hc2 8
      have t9 := blk_cell hc2 9
      have t10 := blk_cell hc2 10
      have t11 := blk_cell hc2 11
      have t12 := blk_cell hc2 12
      have t13 := blk_cell hc2 13
      go_wp2_with fail
      refine (foldsMade_is m s co ro q tr (.slice (some ⟨g, 0, none⟩) n7 (n7 + k7)) (bytesF F) HF.out.1 _ HS14.out.1 HS14.out.2).mono ?_
      rintro e w9 ⟨rfl, hb⟩
      replace HMF := Lib.hid (HMF.out.keep (hb.block bm HMF.out.lt))
      replace hbA := hbA.trans (hb.mono hbA.size)
      clear hb hc2 t0 t1 t2 t3 t4 t5 t6 t7 t8 t9 t10 t11 t12 t13
      go_wp2_with fail
      refine (grid_any HF.out.2.1 HF.out.2.2.1 _).mono ?_
      rintro e wB ⟨rfl, hb⟩
      rw [← HF.out.2.2.2.1, ← HF.out.2.2.2.2]
      replace HMF := Lib.hid (HMF.out.keep (hb.block bm HMF.out.lt))
      replace hbA := hbA.trans (hb.mono hbA.size)
      clear hb
      go_wp2_with fail
      have hszB : w.heap.size ≤ wB.heap.size := hbA.size
      go_loopw [10, 44] (fun v j wx => ∃ (r : Nat), r ≤ R ∧ j = .int .i64 r ∧ Hid (wx.ownsRow wB.heap.size 3 1 v (foA ls inner sh C r).length (intZs (foA ls inner sh C r))) ∧ Hid (Below wB.heap.size wB wx)) (fun _ j _ => R - (intOf j).toNat)
      case atStart => exact ⟨0, by omega, rfl, World.ownsRow_nil _ _ _ _, Below.refl _ _⟩
      case round =>
        obtain ⟨r, hr, rfl, HR, HB⟩ := hrel
        by_cases hlt : r < R
        · go_wp2_with fail
          go_loopw [10, 48] (fun v j wx => ∃ (c : Nat), c ≤ C ∧ j = .int .i64 c ∧ Hid (wx.ownsRow wB.heap.size 3 1 v (foA ls inner sh C r ++ foR ls inner sh r c).length (intZs (foA ls inner sh C r ++ foR ls inner sh r c))) ∧ Hid (Below wB.heap.size wB wx)) (fun _ j _ => C - (intOf j).toNat)
          case atStart => exact ⟨0, by omega, rfl, (by have h := HR.out; show World.ownsRow _ _ _ _ _ _ _; simpa [foR] using h), HB.out⟩
          case round =>
            clear HR HB
            obtain ⟨c, hc, rfl, HR, HB⟩ := hrel
            have hz := HB.out.size
            by_cases hlt2 : c < C
            · obtain ⟨pv, hpv⟩ : ∃ pv, pv = plGet (entG inner 0 ls) (sh, c, r) := ⟨_, rfl⟩
              have hlk : (Instr.lookup 149 (.map (some bm)) (.agg #[.int .i64 sh, .int .i64 c, .int .i64 r]) false).run Tryz.prog wr = .ok (.int .i64 pv) wr := by
                rw [hpv]
                exact (HMF.out.keep (HB.out.block bm HMF.out.lt)).look (ent_nodup HPL.out inner) (q := (sh, c, r)) ⟨hsh, by show c < 1000; omega, by show r < 1000; omega⟩
              have hlen : (foA ls inner sh C r ++ foR ls inner sh r c).length ≤ 300 := by
                rw [List.length_append, foA_len, foR_len]
                have : r * C ≤ 16 * 16 := Nat.mul_le_mul (by omega) hC16
                omega
              have HPV := Lib.hid hpv
              obtain ⟨xs, hxs⟩ : ∃ xs, xs = foA ls inner sh C r ++ foR ls inner sh r c := ⟨_, rfl⟩
              rw [← hxs] at HR hlen
              have HXS := Lib.hid hxs
              clear hpv hxs
              obtain ⟨hi1, hi2, hi3, hi4⟩ := HI.out
              go_wp2_with (at_builtin; (refine wpList_append_own _ rfl _ _ 39 rfl wB.heap.size 3 ei _ 1 8 undInts hi1 hi2 hi3 hi4 rfl (by decide) u10 xs.length (intZs xs) rfl (HR.out.alloc _) ⟨wr.heap.size, 0, none⟩ 1 1 [.int .i64 pv] rfl rfl ?a1 ?b1 ?c1 ?d1 ?e1 ?f1))
              case a1 =>
                intro j u hju
                rw [add_offi]
                unfold World.cell?
                rw [World.alloc_heap_new]
                simpa using hju
              case b1 => simp [Value.oneCell']
              case c1 => simp only [maxLen]; omega
              case d1 => omega
              case e1 => (first | omega | (simp; omega))
              case f1 =>
                rintro v' w7 hown hgrow -
                have HB7 := Lib.hid (HB.out.trans ((((Below.refl _ wr).alloc (Nat.le_refl _) (.cells #[.int .i64 pv] 3)).mono hz).trans (below_row (HR.out.alloc _) (by simp; omega) hgrow)))
                have HO := Lib.hid hown
                clear hgrow hown hi1 hi2 hi3 hi4 hlk
                go_wp2_with fail
                go_roundw
                case rel => exact ⟨c + 1, by omega, by go_num, (by
                  show World.ownsRow _ _ _ _ _ _ _
                  rw [foR_succ, ← HPV.out, ← List.append_assoc, ← HXS.out, List.length_append]
                  have h := HO.out
                  simpa [intZs] using h), HB7.out⟩
                case measure => simp [intOf]; omega
            · obtain rfl : C = c := by omega
              go_wp2_with fail
              go_roundw
              case rel => exact ⟨r + 1, by omega, by go_num, (by show World.ownsRow _ _ _ _ _ _ _; rw [foA_succ]; exact HR.out), HB.out⟩
              case measure => simp [intOf]; omega
        · obtain rfl : R = r := by omega
          go_wp2_with fail
          go_ret
          exact ⟨⟨_, rfl, by rw [← foA_is]; exact row_mono HR.out hszB⟩, hbA.trans (HB.out.mono hszB)⟩
end Go.Proofs.YtielaaaeecfkoaaGreatDoor

/- Forme, of a way of making without an error. -/
namespace Go.Proofs.YtielaaaeecfkoaaGreatDoor
set_option linter.unusedSimpArgs false
set_option linter.unusedVariables false
open Go Go.RowKit Go.Sort Go.BigFrame

theorem Fine.places_ok {p : Prs} {m : Mkw} {f : Fmt} (h : Fine p m f) : ∀ a ∈ leavesW m f, plOk (a.sheet, a.col, a.row) := fun a ha => by
  obtain ⟨i, hi⟩ := List.mem_iff_getElem?.1 ha
  have h1 := h.small hi
  have h2 := h.sheet hi
  have h3 := h.sh4
  exact ⟨by show a.sheet < 1000; omega, by show a.col < 1000; omega, by show a.row < 1000; omega⟩

set_option maxRecDepth 100000 in
set_option maxHeartbeats 4000000 in
theorem Forme_any (p : Prs) (m : Mkw) (f : Fmt) (ls : List Fl) (sh : Nat) (inner : Bool) (vp : Value) (w : World) (hp : PrsAt w.heap.size w vp p) (he : errP p = 0) (hm : mkwErr p m = 0)
    (hf : p.fmts[m.fmt.toNat]? = some f) (hls : ls = leavesW m f) (hsh : sh < m.sheets.toNat) :
    Calls Tryz.prog 17 #[vp, mkwV m, .int .i64 sh, .bool inner] w fun e w' => (∃ v', e = .returned (.tuple #[v', .int .i64 0]) ∧ w'.ownsRow w.heap.size 3 1 v' (formeF ls (rowsF (madeF (fdsB f.folds) m.half)) (colsF (madeF (fdsB f.folds) m.half)) sh inner).length (intZs (formeF ls (rowsF (madeF (fdsB f.folds) m.half)) (colsF (madeF (fdsB f.folds) m.half)) sh inner))) ∧ Below w.heap.size w w' := by
  have HP := Lib.hid hp
  have HE := Lib.hid he
  have HM := Lib.hid hm
  have HF0 := Lib.hid hf
  have FN := Lib.hid (fine_of he hm hf)
  have HLS := Lib.hid hls
  have HAB := Lib.hid ((fds_of_err ((fine_press he).2.2.2 f (List.mem_of_getElem? hf))).2.2)
  obtain ⟨fv, pv, rfl, ⟨a, cap, rfl, -⟩, ⟨a2, cap2, rfl, -⟩, -⟩ := hp
  obtain ⟨n1, hn1⟩ : ∃ n, n = p.fmts.length := ⟨_, rfl⟩
  obtain ⟨n2, hn2⟩ : ∃ n, n = p.pprs.length := ⟨_, rfl⟩
  rw [← hn1, ← hn2] at HP ⊢
  clear hn1 hn2 he hm hf hls
  have hs1 := FN.out.sh1
  have hs4 := FN.out.sh4
  obtain ⟨sn, hsn⟩ : ∃ s, s = m.sheets.toNat := ⟨_, rfl⟩
  rw [← hsn] at hs1 hs4 hsh
  have hms : m.sheets = (sn : Int) := by omega
  have HMS := Lib.hid hms
  obtain ⟨n7, hn7⟩ : ∃ n, n = ls.length := ⟨_, rfl⟩
  have HN7 := Lib.hid hn7
  have hn64 : n7 ≤ 64 := by
    have := FN.out.count
    rw [← HLS.out, ← hn7] at this
    exact this.2
  obtain ⟨fs, hfs⟩ : ∃ fs, fs = formeF ls (rowsF (madeF (fdsB f.folds) m.half)) (colsF (madeF (fdsB f.folds) m.half)) sh inner := ⟨_, rfl⟩
  rw [← hfs]
  have HFS := Lib.hid hfs
  clear hms hsn hn7 hfs
  go_enter Tryz.func17, Tryz.ntmps17
  go_wp2_with fail
  refine (openWay_any p m _ _ (HP.out.later (by exact (by repeat (first | exact Below.refl _ _ | assumption | (refine Below.alloc ?_ ?_ _; rotate_left; · (first | omega | (simp; done) | (simp; omega) | fail)) | (refine Below.setCell ?_ ?_ _; rotate_left; · (first | omega | (simp; done) | (simp; omega) | fail)) | refine Below.drew ?_ | fail)))) HE.out HM.out).mono ?_
  rintro e w2 ⟨⟨f', q, lv, g, hfx, hqx, rfl, hl, hg⟩, hb⟩
  obtain rfl : f' = f := Option.some.inj (hfx.symm.trans HF0.out)
  rw [show leavesF (fdsB f'.folds) m.sheets.toNat m.half = ls from HLS.out.symm] at hl
  obtain ⟨co, hco⟩ : ∃ c : Nat, c = colsF (fdsB f'.folds) := ⟨_, rfl⟩
  obtain ⟨ro, hro⟩ : ∃ c : Nat, c = rowsF (fdsB f'.folds) := ⟨_, rfl⟩
  rw [← hco, ← hro]
  have hb0 : Below w.heap.size w w2 := Below.trans (by exact (by repeat (first | exact Below.refl _ _ | assumption | (refine Below.alloc ?_ ?_ _; rotate_left; · (first | omega | (simp; done) | (simp; omega) | fail)) | (refine Below.setCell ?_ ?_ _; rotate_left; · (first | omega | (simp; done) | (simp; omega) | fail)) | refine Below.drew ?_ | fail))) (hb.mono (by simp; try omega))
  have HL := Lib.hid hl
  obtain ⟨k7, rest, rfl, -⟩ := hl
  rw [← HN7.out] at HL ⊢
  have hz2 := hb0.size
  clear hfx hqx hb hg hco hro
  have hb1 : Below w.heap.size w (w2.alloc (.cells (wayC m f'.folds co ro q p.trim (.slice (some ⟨g, 0, none⟩) n7 (n7 + k7))) 107)) := hb0.alloc hz2 _
  have hc1 : (w2.alloc (.cells (wayC m f'.folds co ro q p.trim (.slice (some ⟨g, 0, none⟩) n7 (n7 + k7))) 107)).heap[w2.heap.size]? = some (.cells (wayC m f'.folds co ro q p.trim (.slice (some ⟨g, 0, none⟩) n7 (n7 + k7))) 107 (0, 0)) := World.alloc_heap_new _ _
  have HL1 := Lib.hid (HL.out.later ((Below.refl _ _).alloc (Nat.le_refl _) (.cells (wayC m f'.folds co ro q p.trim (.slice (some ⟨g, 0, none⟩) n7 (n7 + k7))) 107)))
  go_upto_region 4 with fail
  dsimp only [wayC] at hb1 hc1 HL1
  revert hb1 hc1 HL1
  generalize (w2.alloc (.cells #[.int .i64 m.fmt, .int .i64 m.ppr, .int .i64 m.sheets, .bool m.half, S f'.folds, .int .i64 co, .int .i64 ro, S q.name, .int .i64 q.wlo, .int .i64 q.whi, .int .i64 q.hlo, .int .i64 q.hhi, .int .i64 p.trim, .slice (some ⟨g, 0, none⟩) n7 (n7 + k7)] 107)) = w1
  intro hb1 hc1 HL1
  clear HL hb0
  have d2 := blk_cell hc1 2
  rw [HMS.out] at d2
  have hin : inB 0 ((sn : Int) - 1) sh = true := by simp [inB]; omega
  go_wp2_with fail
  refine (within_one 0 ((sn : Int) - 1) sh _ _ (by simp [World.cell?_alloc_at])).mono ?_
  rintro e w4 ⟨rfl, h9⟩
  rw [hin]
  have hb4 : Below w.heap.size w w4 := by rw [← h9]; exact hb1.alloc hb1.size _
  have hc4 : w4.heap[w2.heap.size]? = some (.cells #[.int .i64 m.fmt, .int .i64 m.ppr, .int .i64 m.sheets, .bool m.half, S f'.folds, .int .i64 co, .int .i64 ro, S q.name, .int .i64 q.wlo, .int .i64 q.whi, .int .i64 q.hlo, .int .i64 q.hhi, .int .i64 p.trim, .slice (some ⟨g, 0, none⟩) n7 (n7 + k7)] 107 (0, 0)) := by rw [← h9]; exact (heap_alloc_past _ _ _ (blk_lt hc1)).trans hc1
  have HL4 := Lib.hid (show LeavesAt w4 _ ls g by rw [← h9]; exact HL1.out.later ((Below.refl _ _).alloc (Nat.le_refl _) _))
  clear h9 hb1 hc1 HL1 d2 hin
  have t0 := blk_cell hc4 0
  have t1 := blk_cell hc4 1
  have t2 := blk_cell hc4 2
  have t3 := blk_cell hc4 3
  have t4 := blk_cell hc4 4
  have t5 := blk_cell hc4 5
  have t6 := blk_cell hc4 6
  have t7 := blk_cell hc4 7
  have t8 := blk_cell hc4 8
  have t9 := blk_cell hc4 9
  have t10 := blk_cell hc4 10
  have t11 := blk_cell hc4 11
  have t12 := blk_cell hc4 12
  have t13 := blk_cell hc4 13
  go_wp2_with fail
  refine (forme_any m f'.folds co ro q p.trim (.slice (some ⟨g, 0, none⟩) n7 (n7 + k7)) ls g sh inner _ HL4.out (by rw [← HN7.out]; exact hn64) (by rw [HLS.out]; exact FN.out.places) (by rw [HLS.out]; exact FN.out.places_ok) (by omega) FN.out.len1 FN.out.len4 (fun h => (FN.out.half h).2) HAB.out).mono ?_
  rintro e w9 ⟨⟨v', rfl, hv'⟩, hb⟩
  rw [← HFS.out] at hv'
  have HV := Lib.hid (row_mono hv' hb4.size)
  have hb9 := hb4.trans (hb.mono hb4.size)
  clear t0 t1 t2 t3 t4 t5 t6 t7 t8 t9 t10 t11 t12 t13 hc4 hv' hb
  go_wp2_with fail
  go_ret2
  exact ⟨⟨_, rfl, HV.out⟩, hb9⟩
end Go.Proofs.YtielaaaeecfkoaaGreatDoor

/- Presses with an error: no way of making is opened. -/
namespace Go.Proofs.YtielaaaeecfkoaaGreatDoor
set_option linter.unusedSimpArgs false
set_option linter.unusedVariables false
open Go Go.RowKit Go.Sort Go.BigFrame

abbrev wayZ : Array Value := #[.int .i64 0, .int .i64 0, .int .i64 0, .bool false, S [], .int .i64 0, .int .i64 0, S [], .int .i64 0, .int .i64 0, .int .i64 0, .int .i64 0, .int .i64 0, .slice none 0 0]
set_option maxRecDepth 100000 in
set_option maxHeartbeats 2000000 in
theorem openWay_bad (p : Prs) (m : Mkw) (vp : Value) (w : World) (hp : PrsAt w.heap.size w vp p) (he : errP p ≠ 0) :
    Calls Tryz.prog 50 #[vp, mkwV m] w fun e w' => e = .returned (.tuple #[.agg wayZ, .int .i64 (errP p)]) ∧ Below w.heap.size w w' := by
  have HP := Lib.hid hp
  obtain ⟨fv, pv, rfl, ⟨a, cap, rfl, -⟩, ⟨a2, cap2, rfl, -⟩, -⟩ := hp
  obtain ⟨n1, hn1⟩ : ∃ n, n = p.fmts.length := ⟨_, rfl⟩
  obtain ⟨n2, hn2⟩ : ∃ n, n = p.pprs.length := ⟨_, rfl⟩
  rw [← hn1, ← hn2] at HP ⊢
  have hO : openP p (.agg #[.slice a n1 cap, .slice a2 n2 cap2, .int .i64 p.trim, .int .i64 p.sheets]) = .agg #[.slice none 0 0, .slice none 0 0, .int .i64 0, .int .i64 0] := by unfold openP; rw [if_neg he]
  obtain ⟨z, hz⟩ : ∃ z, z = errP p := ⟨_, rfl⟩
  have hz0 : (z != 0) = true := by rw [hz]; simpa using he
  rw [← hz]
  have HO := Lib.hid hO
  have HZ := Lib.hid hz
  clear hO hz hn1 hn2 he
  go_enter Tryz.func50, Tryz.ntmps50
  go_wp2_with fail
  refine (foldOpen_any p _ _ (HP.out.later (by exact (by repeat (first | exact Below.refl _ _ | assumption | (refine Below.alloc ?_ ?_ _; rotate_left; · (first | omega | (simp; done) | (simp; omega) | fail)) | (refine Below.setCell ?_ ?_ _; rotate_left; · (first | omega | (simp; done) | (simp; omega) | fail)) | refine Below.drew ?_ | fail))))).mono ?_
  rintro e w2 ⟨rfl, hb2⟩
  rw [HO.out, ← HZ.out]
  have hb0 : Below w.heap.size w w2 := Below.trans (by exact (by repeat (first | exact Below.refl _ _ | assumption | (refine Below.alloc ?_ ?_ _; rotate_left; · (first | omega | (simp; done) | (simp; omega) | fail)) | (refine Below.setCell ?_ ?_ _; rotate_left; · (first | omega | (simp; done) | (simp; omega) | fail)) | refine Below.drew ?_ | fail))) (hb2.mono (by simp; try omega))
  have b3 : w2.heap[w.heap.size + 2]? = some (.cells #[.int .i64 0, .int .i64 0, .int .i64 0, .bool false, S [], .int .i64 0, .int .i64 0, S [], .int .i64 0, .int .i64 0, .int .i64 0, .int .i64 0, .int .i64 0, .slice none 0 0] 107) := blk_later hb2 (by repeat (first | exact heap_alloc_at _ _ _ (by (first | omega | (simp; done) | (simp; omega) | (simp at *; omega) | fail)) | assumption | rw [heap_alloc_past _ _ _ (by (first | omega | (simp; done) | (simp; omega) | (simp at *; omega) | fail))] | rw [heap_setCell_past _ _ _ _ (by (first | omega | (simp; done) | (simp; omega) | (simp at *; omega) | fail))] | fail))
  clear hb2
  have hz2 := hb0.size
  have hlt := blk_lt b3
  have t3 : (w2.alloc (.cells #[.slice none 0 0, .slice none 0 0, .int .i64 0, .int .i64 0] 85)).heap[w.heap.size + 2]? = some (.cells #[.int .i64 0, .int .i64 0, .int .i64 0, .bool false, S [], .int .i64 0, .int .i64 0, S [], .int .i64 0, .int .i64 0, .int .i64 0, .int .i64 0, .int .i64 0, .slice none 0 0] 107) := (heap_alloc_past _ _ _ (by omega)).trans b3
  have hb3 : Below w.heap.size w (w2.alloc (.cells #[.slice none 0 0, .slice none 0 0, .int .i64 0, .int .i64 0] 85)) := hb0.alloc hz2 _
  clear b3
  go_upto_region 2 with fail
  revert t3 hb3
  generalize (w2.alloc (.cells #[.slice none 0 0, .slice none 0 0, .int .i64 0, .int .i64 0] 85)) = w3
  intro t3 hb3
  clear hb0 hz2 hlt
  have e0 := blk_cell t3 0
  have e1 := blk_cell t3 1
  have e2 := blk_cell t3 2
  have e3 := blk_cell t3 3
  have e4 := blk_cell t3 4
  have e5 := blk_cell t3 5
  have e6 := blk_cell t3 6
  have e7 := blk_cell t3 7
  have e8 := blk_cell t3 8
  have e9 := blk_cell t3 9
  have e10 := blk_cell t3 10
  have e11 := blk_cell t3 11
  have e12 := blk_cell t3 12
  have e13 := blk_cell t3 13
  have z0 := blk_free t3 0
  have z1 := blk_free t3 1
  have z2 := blk_free t3 2
  have z3 := blk_free t3 3
  have z4 := blk_free t3 4
  have z5 := blk_free t3 5
  have z6 := blk_free t3 6
  have z7 := blk_free t3 7
  have z8 := blk_free t3 8
  have z9 := blk_free t3 9
  have z10 := blk_free t3 10
  have z11 := blk_free t3 11
  have z12 := blk_free t3 12
  have z13 := blk_free t3 13
  go_wp2_with fail
  have b9 : ((((((((((((((w3.setCell ⟨w.heap.size + 1 + 1, 0, none⟩ (.int .i64 0)).setCell ⟨w.heap.size + 1 + 1, 1, none⟩ (.int .i64 0)).setCell ⟨w.heap.size + 1 + 1, 2, none⟩ (.int .i64 0)).setCell ⟨w.heap.size + 1 + 1, 3, none⟩ (.bool false)).setCell ⟨w.heap.size + 1 + 1, 4, none⟩ (S [])).setCell ⟨w.heap.size + 1 + 1, 5, none⟩ (.int .i64 0)).setCell ⟨w.heap.size + 1 + 1, 6, none⟩ (.int .i64 0)).setCell ⟨w.heap.size + 1 + 1, 7, none⟩ (S [])).setCell ⟨w.heap.size + 1 + 1, 8, none⟩ (.int .i64 0)).setCell ⟨w.heap.size + 1 + 1, 9, none⟩ (.int .i64 0)).setCell ⟨w.heap.size + 1 + 1, 10, none⟩ (.int .i64 0)).setCell ⟨w.heap.size + 1 + 1, 11, none⟩ (.int .i64 0)).setCell ⟨w.heap.size + 1 + 1, 12, none⟩ (.int .i64 0)).setCell ⟨w.heap.size + 1 + 1, 13, none⟩ (.slice none 0 0)).heap[w.heap.size + 1 + 1]? = some (.cells #[.int .i64 0, .int .i64 0, .int .i64 0, .bool false, S [], .int .i64 0, .int .i64 0, S [], .int .i64 0, .int .i64 0, .int .i64 0, .int .i64 0, .int .i64 0, .slice none 0 0] 107) := by simpa using (blk_set (blk_set (blk_set (blk_set (blk_set (blk_set (blk_set (blk_set (blk_set (blk_set (blk_set (blk_set (blk_set (blk_set t3 0 (.int .i64 0)) 1 (.int .i64 0)) 2 (.int .i64 0)) 3 (.bool false)) 4 (S [])) 5 (.int .i64 0)) 6 (.int .i64 0)) 7 (S [])) 8 (.int .i64 0)) 9 (.int .i64 0)) 10 (.int .i64 0)) 11 (.int .i64 0)) 12 (.int .i64 0)) 13 (.slice none 0 0))
  have hb9 : Below w.heap.size w ((((((((((((((w3.setCell ⟨w.heap.size + 1 + 1, 0, none⟩ (.int .i64 0)).setCell ⟨w.heap.size + 1 + 1, 1, none⟩ (.int .i64 0)).setCell ⟨w.heap.size + 1 + 1, 2, none⟩ (.int .i64 0)).setCell ⟨w.heap.size + 1 + 1, 3, none⟩ (.bool false)).setCell ⟨w.heap.size + 1 + 1, 4, none⟩ (S [])).setCell ⟨w.heap.size + 1 + 1, 5, none⟩ (.int .i64 0)).setCell ⟨w.heap.size + 1 + 1, 6, none⟩ (.int .i64 0)).setCell ⟨w.heap.size + 1 + 1, 7, none⟩ (S [])).setCell ⟨w.heap.size + 1 + 1, 8, none⟩ (.int .i64 0)).setCell ⟨w.heap.size + 1 + 1, 9, none⟩ (.int .i64 0)).setCell ⟨w.heap.size + 1 + 1, 10, none⟩ (.int .i64 0)).setCell ⟨w.heap.size + 1 + 1, 11, none⟩ (.int .i64 0)).setCell ⟨w.heap.size + 1 + 1, 12, none⟩ (.int .i64 0)).setCell ⟨w.heap.size + 1 + 1, 13, none⟩ (.slice none 0 0)) := by exact (by repeat (first | (refine Below.setCell ?_ ?_ _; rotate_left; · (first | omega | (simp; done) | (simp; omega) | fail)) | (refine Below.alloc ?_ ?_ _; rotate_left; · (first | omega | (simp; done) | (simp; omega) | fail)) | refine Below.drew ?_ | exact hb3 | fail))
  have y0 := blk_cell b9 0
  have y1 := blk_cell b9 1
  have y2 := blk_cell b9 2
  have y3 := blk_cell b9 3
  have y4 := blk_cell b9 4
  have y5 := blk_cell b9 5
  have y6 := blk_cell b9 6
  have y7 := blk_cell b9 7
  have y8 := blk_cell b9 8
  have y9 := blk_cell b9 9
  have y10 := blk_cell b9 10
  have y11 := blk_cell b9 11
  have y12 := blk_cell b9 12
  have y13 := blk_cell b9 13
  exact bodyPost_ret (v := .tuple #[.agg #[.int .i64 0, .int .i64 0, .int .i64 0, .bool false, S [], .int .i64 0, .int .i64 0, S [], .int .i64 0, .int .i64 0, .int .i64 0, .int .i64 0, .int .i64 0, .slice none 0 0], .int .i64 z]) (by simp [results, Tryz.results50, go_sem, y0, y1, y2, y3, y4, y5, y6, y7, y8, y9, y10, y11, y12, y13]) rfl ⟨rfl, hb9⟩

set_option maxRecDepth 100000 in
set_option maxHeartbeats 2000000 in
theorem Forme_bad (p : Prs) (m : Mkw) (sh : Nat) (inner : Bool) (vp : Value) (w : World) (hp : PrsAt w.heap.size w vp p) (he : errP p ≠ 0) :
    Calls Tryz.prog 17 #[vp, mkwV m, .int .i64 sh, .bool inner] w fun e w' => e = .returned (.tuple #[.slice none 0 0, .int .i64 (errP p)]) ∧ Below w.heap.size w w' := by
  have HP := Lib.hid hp
  have HE := Lib.hid he
  obtain ⟨fv, pv, rfl, ⟨a, cap, rfl, -⟩, ⟨a2, cap2, rfl, -⟩, -⟩ := hp
  obtain ⟨n1, hn1⟩ : ∃ n, n = p.fmts.length := ⟨_, rfl⟩
  obtain ⟨n2, hn2⟩ : ∃ n, n = p.pprs.length := ⟨_, rfl⟩
  rw [← hn1, ← hn2] at HP ⊢
  obtain ⟨z, hz⟩ : ∃ z, z = errP p := ⟨_, rfl⟩
  have hz0 : (z != 0) = true := by rw [hz]; simpa using he
  rw [← hz]
  have HZ := Lib.hid hz
  clear hz hn1 hn2 he
  go_enter Tryz.func17, Tryz.ntmps17
  go_wp2_with fail
  refine (openWay_bad p m _ _ (HP.out.later (by exact (by repeat (first | exact Below.refl _ _ | assumption | (refine Below.alloc ?_ ?_ _; rotate_left; · (first | omega | (simp; done) | (simp; omega) | fail)) | (refine Below.setCell ?_ ?_ _; rotate_left; · (first | omega | (simp; done) | (simp; omega) | fail)) | refine Below.drew ?_ | fail)))) HE.out).mono ?_
  rintro e w2 ⟨rfl, hb⟩
  rw [← HZ.out]
  have hb0 : Below w.heap.size w w2 := Below.trans (by exact (by repeat (first | exact Below.refl _ _ | assumption | (refine Below.alloc ?_ ?_ _; rotate_left; · (first | omega | (simp; done) | (simp; omega) | fail)) | (refine Below.setCell ?_ ?_ _; rotate_left; · (first | omega | (simp; done) | (simp; omega) | fail)) | refine Below.drew ?_ | fail))) (hb.mono (by simp; try omega))
  have hz2 := hb0.size
  clear hb
  go_wp2_with fail
  go_ret2
  exact ⟨rfl, by exact (by repeat (first | (refine Below.setCell ?_ ?_ _; rotate_left; · (first | omega | (simp; done) | (simp; omega) | fail)) | (refine Below.alloc ?_ ?_ _; rotate_left; · (first | omega | (simp; done) | (simp; omega) | fail)) | refine Below.drew ?_ | exact hb0 | fail))⟩
end Go.Proofs.YtielaaaeecfkoaaGreatDoor
