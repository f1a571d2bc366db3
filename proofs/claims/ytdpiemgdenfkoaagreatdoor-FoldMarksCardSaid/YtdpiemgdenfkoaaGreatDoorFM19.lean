/- The parts Ug of the proof, joined. It holds without conditions of its own. -/
import Derived.Test.YtdpiemgdenfkoaaGreatDoorFM15
import Derived.Deep.Cut
import Derived.Test.YtdpiemgdenfkoaaGreatDoorFM18
/- FoldMarks. -/
namespace Go.Proofs.YtdpiemgdenfkoaaGreatDoor
set_option linter.unusedSimpArgs false
set_option linter.unusedVariables false
open Go Go.RowKit Go.Sort Go.BigFrame

theorem mem_castF {xs : List Nat} {k : Nat} : decide ((k : Int) ∈ xs.map fun (n : Nat) => (n : Int)) = decide (k ∈ xs) := by
  refine decide_eq_decide.2 ⟨fun h => ?_, fun h => List.mem_map.2 ⟨k, h, rfl⟩⟩
  obtain ⟨j, hj, e⟩ := List.mem_map.1 h
  have : j = k := by omega
  rwa [← this]
theorem empty_rowI (W : World) (n : Nat) (h : n = W.heap.size) : (W.alloc (.cells #[] 3)).ownsRow n 3 1 (.slice (some ⟨n, 0, none⟩) 0 0) 0 [] := by
  subst h
  exact World.ownsRow_lit W #[] 0 (Nat.le_refl _) (Nat.zero_le _) (by simp)
theorem row_formI {W : World} {base : Nat} {v : Value} {e : TypeId} {s n : Nat} {xs : List Value} (h : W.ownsRow base e s v n xs) (hn : 0 < n) : ∃ g cap, v = .slice (some ⟨g, 0, none⟩) n cap ∧ base ≤ g ∧ g < W.heap.size := by
  rcases h.2 with ⟨_, h0⟩ | ⟨g, cap, cur, rfl, hb, hg, _⟩
  · omega
  · exact ⟨g, cap, rfl, hb, blk_lt hg⟩
theorem intVs_set (hs : List Nat) (s z : Nat) : (intVs hs).set s (.int .i64 (z : Int)) = intVs (hs.set s z) := by
  unfold intVs
  rw [List.map_set]
theorem intVs_at {hs : List Nat} {s h : Nat} (k : hs[s]? = some h) : (intVs hs)[s]? = some (.int .i64 (h : Int)) := by
  unfold intVs
  rw [List.getElem?_map, k]
  rfl

set_option maxRecDepth 100000 in
set_option maxHeartbeats 4000000 in
theorem FoldMarks_any (p : Prs) (vp : Value) (x0 x1 : Nat) (hx0 : x0 < 65536) (hx1 : x1 < 65536) (us : List Nat) (vu : Value) (w : World) (t : TypeId) (hp : PrsAt w.heap.size w vp p) (hu : U16sAt w vu us) (hW : w.heap[0]? = some (.cells tabL.toArray t (0, 0))) :
    Calls Tryz.prog 8 #[vp, .agg #[.int .u16 x0, .int .u16 x1], vu] w fun e w' => e = .returned (.bool true) ∧ Below w.heap.size w w' := by
  have HP := Lib.hid hp
  have HW := Lib.hid hW
  have HU := Lib.hid hu
  obtain ⟨fv, pv, rfl, ⟨a, cap, rfl, hfc⟩, ⟨a2, cap2, rfl, -⟩, -⟩ := hp
  have HFC := Lib.hid hfc
  obtain ⟨au, capu, rfl, -, -⟩ := hu
  obtain ⟨nu, hnu⟩ : ∃ n, n = us.length := ⟨_, rfl⟩
  rw [← hnu] at HU ⊢
  obtain ⟨n1, hn1⟩ : ∃ n, n = p.fmts.length := ⟨_, rfl⟩
  obtain ⟨n2, hn2⟩ : ∃ n, n = p.pprs.length := ⟨_, rfl⟩
  rw [← hn1, ← hn2] at HP ⊢
  have HN1 := Lib.hid hn1
  clear hn1 hn2 hW hfc hnu
  go_enter Tryz.func8, Tryz.ntmps8
  go_wp2_with fail
  have hb0 : Below w.heap.size w ((w.alloc (.cells #[.slice a n1 cap, .slice a2 n2 cap2, .int .i64 p.trim, .int .i64 p.sheets] 25)).alloc (.cells #[.int .u16 x0, .int .u16 x1] 59)) := by exact (by repeat (first | exact Below.refl _ _ | assumption | (refine Below.alloc ?_ ?_ _; rotate_left; · (first | omega | (simp; done) | (simp; omega) | fail)) | (refine Below.setCell ?_ ?_ _; rotate_left; · (first | omega | (simp; done) | (simp; omega) | fail)) | refine Below.drew ?_ | fail))
  have b1 : ((w.alloc (.cells #[.slice a n1 cap, .slice a2 n2 cap2, .int .i64 p.trim, .int .i64 p.sheets] 25)).alloc (.cells #[.int .u16 x0, .int .u16 x1] 59)).heap[w.heap.size]? = some (.cells #[.slice a n1 cap, .slice a2 n2 cap2, .int .i64 p.trim, .int .i64 p.sheets] 25 (0, 0)) := by exact (by repeat (first | exact heap_alloc_at _ _ _ (by (first | omega | (simp; done) | (simp; omega) | (simp at *; omega) | fail)) | assumption | rw [heap_alloc_past _ _ _ (by (first | omega | (simp; done) | (simp; omega) | (simp at *; omega) | fail))] | rw [heap_setCell_past _ _ _ _ (by (first | omega | (simp; done) | (simp; omega) | (simp at *; omega) | fail))] | fail))
  have b2 : ((w.alloc (.cells #[.slice a n1 cap, .slice a2 n2 cap2, .int .i64 p.trim, .int .i64 p.sheets] 25)).alloc (.cells #[.int .u16 x0, .int .u16 x1] 59)).heap[w.heap.size + 1]? = some (.cells #[.int .u16 x0, .int .u16 x1] 59 (0, 0)) := by exact (by repeat (first | exact heap_alloc_at _ _ _ (by (first | omega | (simp; done) | (simp; omega) | (simp at *; omega) | fail)) | assumption | rw [heap_alloc_past _ _ _ (by (first | omega | (simp; done) | (simp; omega) | (simp at *; omega) | fail))] | rw [heap_setCell_past _ _ _ _ (by (first | omega | (simp; done) | (simp; omega) | (simp at *; omega) | fail))] | fail))
  generalize hw1 : ((w.alloc (.cells #[.slice a n1 cap, .slice a2 n2 cap2, .int .i64 p.trim, .int .i64 p.sheets] 25)).alloc (.cells #[.int .u16 x0, .int .u16 x1] 59)) = w1 at *
  clear hw1
  have p0 := blk_cell b1 0
  have p1 := blk_cell b1 1
  have p2 := blk_cell b1 2
  have p3 := blk_cell b1 3
  have x0' := blk_cell b2 0
  have x1' := blk_cell b2 1
  obtain ⟨ep, hep⟩ : ∃ ep, ep = errP p := ⟨_, rfl⟩
  have HEP := Lib.hid hep
  refine (valid2_any p _ _ (HP.out.later hb0)).mono ?_
  rintro e w9 ⟨rfl, hb⟩
  rw [← hep]
  clear hep
  replace b1 := blk_later hb b1
  replace b2 := blk_later hb b2
  replace hb0 := hb0.trans (hb.mono hb0.size)
  clear p0 p1 p2 p3 x0' x1' hb
  generalize w9 = w2 at *
  have p0 := blk_cell b1 0
  have p1 := blk_cell b1 1
  have p2 := blk_cell b1 2
  have p3 := blk_cell b1 3
  have x0' := blk_cell b2 0
  have x1' := blk_cell b2 1
  by_cases h0 : ep = 0
  · have e0 : (ep == 0) = true := by simp [h0]
    have HE := Lib.hid (show errP p = 0 by rw [← HEP.out]; exact h0)
    clear HEP
    subst h0
    clear e0
    go_wp2_with fail
    refine (Made2_any p _ x0 _ (HP.out.later hb0) HE.out hx0).mono ?_
    rintro e w9 ⟨⟨m, rfl, hm⟩, hb⟩
    have HM := Lib.hid hm
    clear hm
    replace b1 := blk_later hb b1
    replace b2 := blk_later hb b2
    replace hb0 := hb0.trans (hb.mono hb0.size)
    clear p0 p1 p2 p3 x0' x1' hb
    generalize w9 = w3 at *
    have p0 := blk_cell b1 0
    have p1 := blk_cell b1 1
    have p2 := blk_cell b1 2
    have p3 := blk_cell b1 3
    have x0' := blk_cell b2 0
    have x1' := blk_cell b2 1
    obtain ⟨m1, m2, m3, m4⟩ := fine_at HE.out HM.out
    obtain ⟨f, hf⟩ : ∃ f, p.fmts[m.fmt.toNat]? = some f := ⟨_, List.getElem?_eq_getElem m2⟩
    have HF := Lib.hid hf
    have FN := Lib.hid (fine_of HE.out HM.out hf)
    clear hf m1 m2 m3 m4
    have hb : Below w3.heap.size w3 (w3.alloc (.cells #[.int .i64 m.fmt, .int .i64 m.ppr, .int .i64 m.sheets, .bool m.half] 38)) := (Below.refl _ _).alloc (Nat.le_refl _) _
    have b3 : (w3.alloc (.cells #[.int .i64 m.fmt, .int .i64 m.ppr, .int .i64 m.sheets, .bool m.half] 38)).heap[w3.heap.size]? = some (.cells #[.int .i64 m.fmt, .int .i64 m.ppr, .int .i64 m.sheets, .bool m.half] 38 (0, 0)) := World.alloc_heap_new _ _
    replace b1 := blk_later hb b1
    replace b2 := blk_later hb b2
    replace hb0 := hb0.trans (hb.mono hb0.size)
    clear p0 p1 p2 p3 x0' x1' hb
    have p0 := blk_cell b1 0
    have p1 := blk_cell b1 1
    have p2 := blk_cell b1 2
    have p3 := blk_cell b1 3
    have x0' := blk_cell b2 0
    have x1' := blk_cell b2 1
    have q0 := blk_cell b3 0
    have q1 := blk_cell b3 1
    have q2 := blk_cell b3 2
    have q3 := blk_cell b3 3
    obtain ⟨sn, hsn⟩ : ∃ s, s = m.sheets.toNat := ⟨_, rfl⟩
    have hsn1 := FN.out.sh1
    have hsn4 := FN.out.sh4
    rw [← hsn] at hsn1 hsn4
    have hms : m.sheets = (sn : Int) := by omega
    have HMS := Lib.hid hms
    have HSN := Lib.hid hsn
    clear hms hsn
    go_wp2_with fail
    refine (halves_any m us _ _ (HU.out.later hb0) (by rw [HMS.out]; omega) (by rw [HMS.out]; omega)).mono ?_
    rintro e w9 ⟨⟨v8, rfl, hr8⟩, hb⟩
    rw [← HSN.out] at hr8
    obtain ⟨hs, hhs⟩ : ∃ hs, hs = halvesN us sn := ⟨_, rfl⟩
    have hs01 : ∀ h ∈ hs, h ≤ 1 := by rw [hhs]; exact fun h => halvesN_le
    have hslen : hs.length = sn := by rw [hhs, halvesN_len]
    rw [← hhs, hslen] at hr8
    obtain ⟨g8, cap8, rfl, hg8, hg8b⟩ := row_formI hr8 (by omega)
    have HI8 := Lib.hid (ints_of_row (by rw [hslen]; exact hr8 : World.ownsRow _ _ _ _ _ hs.length _))
    have HR8 := Lib.hid hr8
    have HS01 := Lib.hid hs01
    have HSL := Lib.hid hslen
    clear hhs hg8 hr8 hs01 hslen
    replace b1 := blk_later hb b1
    replace b2 := blk_later hb b2
    replace b3 := blk_later hb b3
    replace hb0 := hb0.trans (hb.mono hb0.size)
    clear p0 p1 p2 p3 x0' x1' q0 q1 q2 q3 hb
    generalize w9 = w5 at *
    have p0 := blk_cell b1 0
    have p1 := blk_cell b1 1
    have p2 := blk_cell b1 2
    have p3 := blk_cell b1 3
    have x0' := blk_cell b2 0
    have x1' := blk_cell b2 1
    have q0 := blk_cell b3 0
    have q1 := blk_cell b3 1
    have q2 := blk_cell b3 2
    have q3 := blk_cell b3 3
    obtain ⟨s0, hs0⟩ : ∃ s, s = x1 % sn := ⟨_, rfl⟩
    have hs0n : s0 < sn := by rw [hs0]; exact Nat.mod_lt _ (by omega)
    have e5 : (m.sheets == 0) = false := by rw [HMS.out]; simp; omega
    have e5a : ¬ m.sheets = 0 := by rw [HMS.out]; omega
    have e5b : 1 ≤ m.sheets := by rw [HMS.out]; omega
    have e5c : m.sheets ≤ 4 := by rw [HMS.out]; omega
    have i5 : (x1 : Int) % m.sheets = (s0 : Int) := by rw [HMS.out, hs0]; exact (Int.natCast_emod _ _).symm
    obtain ⟨h, hh⟩ : ∃ h, hs[s0]? = some h := ⟨_, List.getElem?_eq_getElem (by rw [HSL.out]; exact hs0n)⟩
    have hh1 : h ≤ 1 := HS01.out h (List.mem_of_getElem? hh)
    have HH := Lib.hid hh
    obtain ⟨ei, hi1, hi2, hi3, hi4⟩ := elemInt
    clear hs0 hh
    go_wp2_with (at_builtin; (refine wpList_append_own _ rfl _ _ 39 rfl (w5.heap.size) 3 ei _ 1 8 undInts hi1 hi2 hi3 hi4 rfl (by decide) (.slice (some ⟨w5.heap.size, 0, none⟩) 0 0) 0 [] rfl (empty_rowI w5 _ rfl) ⟨g8, 0, none⟩ sn cap8 (intVs hs) rfl (by unfold intVs; rw [List.length_map, HSL.out, Nat.mul_one]) ?k1 ?k2 ?k3 ?k4 ?k5 ?k6))
    case k1 =>
      intro j u hju
      exact (HR8.out.alloc _).cells (g := g8) (by simp [Value.ownBlock]) j u hju
    case k2 =>
      intro u hu
      unfold intVs at hu
      obtain ⟨z, -, rfl⟩ := List.mem_map.1 hu
      rfl
    case k3 => simp only [maxLen]; omega
    case k4 => omega
    case k5 => simp
    rintro v10 w9 hown hgrow -
    replace hown : w9.ownsRow w5.heap.size 3 1 v10 sn (intVs hs) := by simpa using hown
    obtain ⟨g10, cap10, rfl, hg10, hg10b⟩ := row_formI hown (by omega)
    have hb : Below w5.heap.size w5 w9 := ((Below.refl _ w5).alloc (Nat.le_refl _) _).trans (below_row (empty_rowI w5 _ rfl) (by simp) (by simpa using hgrow))
    have r0 := (hown.cellAt s0 (by omega)).trans (intVs_at HH.out)
    have f0 := hown.frozenAt s0
    have r8 := cell_later' hb ((HR8.out.cellAt s0 (by omega)).trans (intVs_at HH.out))
    have HO := Lib.hid hown
    have HB := Lib.hid hb
    clear hown hgrow hi1 hi2 hi3 hi4 hb
    have ih1 : ((1 : Int) - (h : Int)) = ((1 - h : Nat) : Int) := by omega
    go_upto_region 8 with fail

    have hb : Below w5.heap.size w5 (w9.setCell ⟨g10, s0, none⟩ (.int .i64 ((1 - h : Nat) : Int))) := HB.out.setCell hg10 _
    have hr10 := (HO.out.stored s0 (.int .i64 ((1 - h : Nat) : Int))).1
    rw [intVs_set] at hr10
    have HI10 := Lib.hid (ints_of_row (by rw [List.length_set, HSL.out]; exact hr10 : World.ownsRow _ _ _ _ _ (hs.set s0 (1 - h)).length _))
    replace HI8 := Lib.hid (HI8.out.later hb)
    clear r0 f0 r8 HO HB ih1 hr10 HR8 e5 e5a i5 hg8b hg10 hg10b
    generalize (w9.setCell ⟨g10, s0, none⟩ (.int .i64 ((1 - h : Nat) : Int))) = w9 at *
    replace b1 := blk_later hb b1
    replace b2 := blk_later hb b2
    replace b3 := blk_later hb b3
    replace hb0 := hb0.trans (hb.mono hb0.size)
    clear p0 p1 p2 p3 x0' x1' q0 q1 q2 q3 hb
    generalize w9 = w6 at *
    have p0 := blk_cell b1 0
    have p1 := blk_cell b1 1
    have p2 := blk_cell b1 2
    have p3 := blk_cell b1 3
    have x0' := blk_cell b2 0
    have x1' := blk_cell b2 1
    have q0 := blk_cell b3 0
    have q1 := blk_cell b3 1
    have q2 := blk_cell b3 2
    have q3 := blk_cell b3 3
    go_wp2_with fail
    refine (Leaves2_any p m _ _ (HP.out.later hb0) HE.out HM.out).mono ?_
    rintro e w9 ⟨⟨f', lv, g, hfx, rfl, hl, -⟩, hb⟩
    obtain rfl : f' = f := Option.some.inj (hfx.symm.trans HF.out)
    clear hfx
    obtain ⟨ls, hls⟩ : ∃ ls, ls = leavesW m f' := ⟨_, rfl⟩
    have hcnt := FN.out.count
    rw [← hls] at hcnt
    rw [show leavesF (fdsB f'.folds) m.sheets.toNat m.half = ls from hls.symm] at hl
    have HLS := Lib.hid hls
    have HL := Lib.hid hl
    obtain ⟨k7, rest, rfl, -⟩ := hl
    obtain ⟨N, hN⟩ : ∃ N, N = ls.length := ⟨_, rfl⟩
    rw [← hN] at HL hcnt ⊢
    have HN := Lib.hid hN
    obtain ⟨hc1, hc64⟩ := hcnt
    replace HI8 := Lib.hid (HI8.out.later hb)
    replace HI10 := Lib.hid (HI10.out.later hb)
    clear hls hN
    replace b1 := blk_later hb b1
    replace b2 := blk_later hb b2
    replace b3 := blk_later hb b3
    replace hb0 := hb0.trans (hb.mono hb0.size)
    clear p0 p1 p2 p3 x0' x1' q0 q1 q2 q3 hb
    generalize w9 = w7 at *
    have p0 := blk_cell b1 0
    have p1 := blk_cell b1 1
    have p2 := blk_cell b1 2
    have p3 := blk_cell b1 3
    have x0' := blk_cell b2 0
    have x1' := blk_cell b2 1
    have q0 := blk_cell b3 0
    have q1 := blk_cell b3 1
    have q2 := blk_cell b3 2
    have q3 := blk_cell b3 3
    go_wp2_with fail
    refine (Marked_any p m f' ls hs _ _ _ (HP.out.later hb0) HE.out HM.out HF.out HLS.out HI8.out (by rw [HSL.out]; exact HSN.out) HS01.out).mono ?_
    rintro e w9 ⟨⟨v13, rfl, hv13⟩, hb⟩
    replace HI10 := Lib.hid (HI10.out.later hb)
    replace HL := Lib.hid (HL.out.later hb)
    clear HI8
    replace b1 := blk_later hb b1
    replace b2 := blk_later hb b2
    replace b3 := blk_later hb b3
    replace hb0 := hb0.trans (hb.mono hb0.size)
    clear p0 p1 p2 p3 x0' x1' q0 q1 q2 q3 hb
    generalize w9 = w8 at *
    have p0 := blk_cell b1 0
    have p1 := blk_cell b1 1
    have p2 := blk_cell b1 2
    have p3 := blk_cell b1 3
    have x0' := blk_cell b2 0
    have x1' := blk_cell b2 1
    have q0 := blk_cell b3 0
    have q1 := blk_cell b3 1
    have q2 := blk_cell b3 2
    have q3 := blk_cell b3 3
    go_wp2_with fail
    refine (Marked_any p m f' ls (hs.set s0 (1 - h)) _ _ _ (HP.out.later hb0) HE.out HM.out HF.out HLS.out HI10.out (by rw [List.length_set, HSL.out]; exact HSN.out) (fun z hz => by
      rcases List.mem_or_eq_of_mem_set hz with hz | rfl
      · exact HS01.out z hz
      · omega)).mono ?_
    rintro e w9 ⟨⟨v15, rfl, hv15⟩, hb⟩
    replace HL := Lib.hid (HL.out.later hb)
    replace hv13 := hv13.later hb
    clear HI10
    replace b1 := blk_later hb b1
    replace b2 := blk_later hb b2
    replace b3 := blk_later hb b3
    replace hb0 := hb0.trans (hb.mono hb0.size)
    clear p0 p1 p2 p3 x0' x1' q0 q1 q2 q3 hb
    generalize w9 = w10 at *
    have p0 := blk_cell b1 0
    have p1 := blk_cell b1 1
    have p2 := blk_cell b1 2
    have p3 := blk_cell b1 3
    have x0' := blk_cell b2 0
    have x1' := blk_cell b2 1
    have q0 := blk_cell b3 0
    have q1 := blk_cell b3 1
    have q2 := blk_cell b3 2
    have q3 := blk_cell b3 3
    have H13 := Lib.hid hv13
    have H15 := Lib.hid hv15
    obtain ⟨a13, cap13, rfl, -⟩ := hv13
    obtain ⟨a15, cap15, rfl, -⟩ := hv15
    rw [List.length_map] at H13 H15 ⊢
    rw [List.length_map]
    obtain ⟨co, hco⟩ : ∃ c, c = colsF (fdsB f'.folds) := ⟨_, rfl⟩
    obtain ⟨ro, hro⟩ : ∃ c, c = rowsF (fdsB f'.folds) := ⟨_, rfl⟩
    rw [← hco, ← hro] at H13 H15 ⊢
    obtain ⟨MA, hMA⟩ : ∃ l, l = marksF ls co ro hs := ⟨_, rfl⟩
    obtain ⟨MB, hMB⟩ : ∃ l, l = marksF ls co ro (hs.set s0 (1 - h)) := ⟨_, rfl⟩
    rw [← hMA] at H13 ⊢
    rw [← hMB] at H15 ⊢
    have HCNT : Hid (okCnt m.half ((MA.filter (atS ls s0)).length) = true) := Lib.hid (by
      rw [hMA, marks_cnt HH.out, HLS.out, hco, hro]
      exact FN.out.cnt (by rw [← HSN.out]; exact hs0n) hh1)
    obtain ⟨A, hA⟩ : ∃ A, A = acrossW f' := ⟨_, rfl⟩
    have HA := Lib.hid hA
    clear hA
    have HOTH : Hid (∀ y x, y ∈ MA → ls[y]? = some x → decide (y ∈ MB) = !(x.sheet == s0 && A)) := Lib.hid fun y x hy hx => by
      rw [hMB, hco, hro, HA.out]
      exact marks_other FN.out HLS.out (by rw [HSL.out]; exact HSN.out) HS01.out HH.out (by rw [← hco, ← hro, ← hMA]; exact hy) hx
    have HLT : Hid (∀ y ∈ MA, y < N) := Lib.hid fun y hy => by rw [HN.out]; rw [hMA] at hy; exact marks_lt hy
    have HUP : Hid (∀ x y z, MA[x]? = some y → MA[x + 1]? = some z → y < z) := Lib.hid fun x y z h1 h2 => by rw [hMA] at h1 h2; exact marks_up h1 h2
    have hMB64 : MB.length ≤ 64 := by
      rw [hMB]
      unfold marksF
      have := List.length_filter_le (markAt ls co ro (hs.set s0 (1 - h))) (List.range ls.length)
      rw [List.length_range] at this
      have := HN.out
      omega
    have hMA64 : MA.length ≤ 64 := by
      rw [hMA]
      unfold marksF
      have := List.length_filter_le (markAt ls co ro hs) (List.range ls.length)
      rw [List.length_range] at this
      have := HN.out
      omega
    obtain ⟨N13, hN13⟩ : ∃ n, n = MA.length := ⟨_, rfl⟩
    obtain ⟨N15, hN15⟩ : ∃ n, n = MB.length := ⟨_, rfl⟩
    rw [← hN13] at hMA64 H13 ⊢
    rw [← hN15] at hMB64 H15 ⊢
    have HN13 := Lib.hid hN13
    have HN15 := Lib.hid hN15
    obtain ⟨m1, m2, -, -⟩ := fine_at HE.out HM.out
    rw [← HN1.out] at m2
    have m3 : m.fmt < (n1 : Int) := by omega
    obtain ⟨b', off, rfl, hb', hc⟩ := HFC.out (fun h => by have := HF.out; rw [h] at this; simp at this)
    have qf : w10.cell? ⟨b', off + m.fmt.toNat * 2 + 1, none⟩ = some (S f'.folds) := cell_later' hb0 (by have := hc m.fmt.toNat f' HF.out 1 _ rfl; simpa using this)
    obtain ⟨M, hM⟩ : ∃ M, f'.folds.length = M := ⟨_, rfl⟩
    have hzs : (⟨f'.folds.toArray⟩ : ByteArray).size = M := (size_bytes f'.folds).trans hM
    have hM4 : M ≤ 4 := by have := FN.out.len4; omega
    have HMM := Lib.hid hM
    have HQF := Lib.hid qf
    have B1 := Lib.hid b1
    have B3 := Lib.hid b3
    clear hc hb' hM hco hro hMA hMB hN13 hN15 qf hh1 hs0n
    go_wp2_with fail
    clear p0 p1 p2 p3 x0' x1' q0 q1 q2 q3 b1 b2 b3
    go_loopw [17, 18] (fun c j wr => ∃ (k : Nat), k ≤ N13 ∧ j = .int .i64 k ∧ c = .int .i64 (((MA.take k).filter (atS ls s0)).length : Nat) ∧ Hid (Below w10.heap.size w10 wr)) (fun _ j _ => N13 - (intOf j).toNat)
    case atStart => exact ⟨0, by omega, rfl, rfl, Below.refl _ _⟩
    case round =>
      obtain ⟨k, hk, rfl, rfl, HB⟩ := hrel
      by_cases hlt : k < N13
      · obtain ⟨y, hy⟩ : ∃ y, MA[k]? = some y := ⟨_, List.getElem?_eq_getElem (by rw [← HN13.out]; exact hlt)⟩
        have hyN : y < N := HLT.out y (List.mem_of_getElem? hy)
        obtain ⟨x, hx⟩ : ∃ x, ls[y]? = some x := ⟨_, List.getElem?_eq_getElem (by rw [← HN.out]; exact hyN)⟩
        have HY := Lib.hid hy
        have HX := Lib.hid hx
        have HOT := Lib.hid (HOTH.out y x (List.mem_of_getElem? hy) hx)
        have HTK : Hid (MA.take (k + 1) = MA.take k ++ [y]) := Lib.hid (by rw [List.take_add_one, hy]; rfl)
        have HAT : Hid (atS ls s0 y = (x.sheet == s0)) := Lib.hid (by unfold atS; rw [hx])
        obtain ⟨g13, rfl, -, c13⟩ := (H13.out.later HB.out).get (i := k) (x := (y : Int)) (by rw [List.getElem?_map, hy]; rfl)
        obtain ⟨C, hC⟩ : ∃ C, C = ((MA.take k).filter (atS ls s0)).length := ⟨_, rfl⟩
        have hC64 : C ≤ 64 := by
          rw [hC]
          refine Nat.le_trans (List.length_filter_le _ _) ?_
          rw [List.length_take]
          omega
        rw [← hC]
        have HC := Lib.hid hC
        have f2 : decide ((y : Int) < 0) = false := decide_eq_false (by omega)
        have f3 : decide (N ≤ y) = false := decide_eq_false (by omega)
        clear hy hx hC
        cases k with
        | zero =>
          go_wp2_with fail
          go_quiet (fail)
          have HB2 : Hid (Below w10.heap.size w10 (wr.drewN nq)) := Lib.hid (bdrewN HB.out nq)
          clear c13 HB
          generalize wr.drewN nq = w11 at *
          obtain ⟨g14, hg14, -, c13⟩ := (H13.out.later HB2.out).get (i := 0) (x := (y : Int)) (by rw [List.getElem?_map, HY.out]; rfl)
          obtain rfl : g13 = g14 := by injection hg14 with hg14; injection hg14
          have r0 := (leaf_cells (HL.out.later HB2.out) HX.out).1
          have b1 := blk_later HB2.out B1.out
          have b3 := blk_later HB2.out B3.out
          have p0 := blk_cell b1 0
          have q0 := blk_cell b3 0
          have qf := cell_later' HB2.out HQF.out
          clear hg14
          by_cases hE : x.sheet = s0
          · have g1 : ((x.sheet : Int) == (s0 : Int)) = true := by simp [hE]
            have HBV : Hid (decide (y ∈ MB) = !A) := Lib.hid (by rw [HOT.out, beq_iff_eq.2 hE]; simp)
            have HCC : Hid (((MA.take (0 + 1)).filter (atS ls s0)).length = C + 1) := Lib.hid (by
              rw [HTK.out, List.filter_append, List.length_append, ← HC.out, List.filter_cons_of_pos (by rw [HAT.out, beq_iff_eq.2 hE])]; rfl)
            clear hE HOT HAT HTK HC
            go_wp2_with fail
            clear p0 q0 qf b1 b3
            go_loopw [19, 21] (fun b j w12 => ∃ (j' : Nat), j' ≤ M ∧ j = .int .i64 j' ∧ b = .bool ((f'.folds.take j').any fun c => c == 120) ∧ w12 = w11) (fun _ j _ => M - (intOf j).toNat)
            case atStart => exact ⟨0, by omega, rfl, rfl, rfl⟩
            case round =>
              obtain ⟨q, hq, rfl, rfl, rfl⟩ := hrel
              by_cases hlq : q < M
              · obtain ⟨c, hcq⟩ : ∃ c, f'.folds[q]? = some c := ⟨_, List.getElem?_eq_getElem (by rw [HMM.out]; exact hlq)⟩
                have hst : (f'.folds.take (q + 1)).any (fun c => c == 120) = ((f'.folds.take q).any (fun c => c == 120) || c == 120) := by rw [List.take_add_one, hcq, List.any_append]; simp
                have hby : ∀ h : q < (⟨f'.folds.toArray⟩ : ByteArray).size, (⟨f'.folds.toArray⟩ : ByteArray)[q]'h = c := fun h => by
                  obtain ⟨hk, hc⟩ := List.getElem?_eq_some_iff.1 hcq
                  rw [← hc]; rfl
                have hc2 : c = 120 ∨ c = 121 := by
                  have hm := List.mem_of_getElem? hcq
                  rw [← FN.out.back] at hm
                  unfold bytesF at hm
                  obtain ⟨b, -, rfl⟩ := List.mem_map.1 hm
                  cases b <;> simp
                have HST := Lib.hid hst
                clear hcq hst
                obtain ⟨P0, hP0⟩ : ∃ P0, P0 = (f'.folds.take q).any (fun c => c == 120) := ⟨_, rfl⟩
                rw [← hP0]
                have HP0 := Lib.hid hP0
                clear hP0
                cases P0 with
                | true =>
                  clear hby hc2
                  go_wp2_with fail
                  go_roundw
                  case rel => exact ⟨q + 1, by omega, by go_num, by rw [HST.out, ← HP0.out]; rfl, trivial⟩
                  case measure => simp [intOf]; omega
                | false =>
                  rcases hc2 with rfl | rfl
                  · go_wp2_with fail
                    go_roundw
                    case rel => exact ⟨q + 1, by omega, by go_num, by rw [HST.out, ← HP0.out]; rfl, trivial⟩
                    case measure => simp [intOf]; omega
                  · go_wp2_with fail
                    go_roundw
                    case rel => exact ⟨q + 1, by omega, by go_num, by rw [HST.out, ← HP0.out]; rfl, trivial⟩
                    case measure => simp [intOf]; omega
              · obtain rfl : M = q := by omega
                clear hlq hq
                rw [show (f'.folds.take M).any (fun c => c == 120) = A by rw [← HMM.out, List.take_length, HA.out]; rfl]
                have hBA : ((!A) == A) = false := by cases A <;> rfl
                have c1 : ∀ d' os, Calls Tryz.prog 26 #[.slice a15 N15 cap15, .int .i64 y] (grow (redrawn wr d') os) (fun e w'' => e = .returned (.bool (!A)) ∧ ∃ p : Regrown, w'' = grow (redrawn wr p.d) p.os) := fun d' os => Calls.regrown_of ((refHas_any (MB.map fun (n : Nat) => (n : Int)) _ y _ (H15.out.later (HB2.out.trans ((below_regrown wr d' os).mono HB2.out.size))) (by rw [List.length_map, ← HN15.out]; omega)).mono fun e w' h => ⟨by rw [h.1, mem_castF, HBV.out], by rw [h.2]; exact Below.refl _ _⟩)
                as_aux_lemma =>
                  go_wp2_with fail
                  have b1 := blk_later HB2.out B1.out
                  have pc13 := cell_regrown c13
                  have pr0 := cell_regrown r0
                  refine wp_region_quiet_below (by kernel_rfl) (by kernel_rfl) ?_; (repeat (go_big_quiet_step (with_reducible exact c1 _ _))); refine wpQuiet_nil ?_; rintro w3 ⟨⟨d3, os3⟩, rfl⟩
                  have HB3 := Lib.hid (HB2.out.trans ((below_regrown wr d3 os3).mono HB2.out.size))
                  clear c1 pc13 pr0 c13 r0 b1
                  dsimp only
                  generalize grow (redrawn wr d3) os3 = w3 at *
                  go_wp2_with fail
                  go_roundw
                  case rel => exact ⟨0 + 1, by omega, by go_num, (by show Value.int .i64 _ = Value.int .i64 _; rw [HCC.out]; try first | rfl | go_num), HB3.out⟩
                  case measure => simp [intOf]; omega
          · have g1 : ((x.sheet : Int) == (s0 : Int)) = false := beq_eq_false_iff_ne.2 (by omega)
            have HBV : Hid (decide (y ∈ MB) = true) := Lib.hid (by rw [HOT.out, beq_eq_false_iff_ne.2 hE]; rfl)
            have HCC : Hid (((MA.take (0 + 1)).filter (atS ls s0)).length = C) := Lib.hid (by
              rw [HTK.out, List.filter_append, List.length_append, ← HC.out, List.filter_cons_of_neg (by rw [HAT.out, beq_eq_false_iff_ne.2 hE]; simp)]; rfl)
            clear hE HOT HAT HTK HC
            go_wp2_with fail
            clear p0 q0 qf b1 b3
            go_loopw [19, 21] (fun b j w12 => ∃ (j' : Nat), j' ≤ M ∧ j = .int .i64 j' ∧ b = .bool ((f'.folds.take j').any fun c => c == 120) ∧ w12 = w11) (fun _ j _ => M - (intOf j).toNat)
            case atStart => exact ⟨0, by omega, rfl, rfl, rfl⟩
            case round =>
              obtain ⟨q, hq, rfl, rfl, rfl⟩ := hrel
              by_cases hlq : q < M
              · obtain ⟨c, hcq⟩ : ∃ c, f'.folds[q]? = some c := ⟨_, List.getElem?_eq_getElem (by rw [HMM.out]; exact hlq)⟩
                have hst : (f'.folds.take (q + 1)).any (fun c => c == 120) = ((f'.folds.take q).any (fun c => c == 120) || c == 120) := by rw [List.take_add_one, hcq, List.any_append]; simp
                have hby : ∀ h : q < (⟨f'.folds.toArray⟩ : ByteArray).size, (⟨f'.folds.toArray⟩ : ByteArray)[q]'h = c := fun h => by
                  obtain ⟨hk, hc⟩ := List.getElem?_eq_some_iff.1 hcq
                  rw [← hc]; rfl
                have hc2 : c = 120 ∨ c = 121 := by
                  have hm := List.mem_of_getElem? hcq
                  rw [← FN.out.back] at hm
                  unfold bytesF at hm
                  obtain ⟨b, -, rfl⟩ := List.mem_map.1 hm
                  cases b <;> simp
                have HST := Lib.hid hst
                clear hcq hst
                obtain ⟨P0, hP0⟩ : ∃ P0, P0 = (f'.folds.take q).any (fun c => c == 120) := ⟨_, rfl⟩
                rw [← hP0]
                have HP0 := Lib.hid hP0
                clear hP0
                cases P0 with
                | true =>
                  clear hby hc2
                  go_wp2_with fail
                  go_roundw
                  case rel => exact ⟨q + 1, by omega, by go_num, by rw [HST.out, ← HP0.out]; rfl, trivial⟩
                  case measure => simp [intOf]; omega
                | false =>
                  rcases hc2 with rfl | rfl
                  · go_wp2_with fail
                    go_roundw
                    case rel => exact ⟨q + 1, by omega, by go_num, by rw [HST.out, ← HP0.out]; rfl, trivial⟩
                    case measure => simp [intOf]; omega
                  · go_wp2_with fail
                    go_roundw
                    case rel => exact ⟨q + 1, by omega, by go_num, by rw [HST.out, ← HP0.out]; rfl, trivial⟩
                    case measure => simp [intOf]; omega
              · obtain rfl : M = q := by omega
                clear hlq hq
                rw [show (f'.folds.take M).any (fun c => c == 120) = A by rw [← HMM.out, List.take_length, HA.out]; rfl]
                have hBA : ((!A) == A) = false := by cases A <;> rfl
                have c1 : ∀ d' os, Calls Tryz.prog 26 #[.slice a15 N15 cap15, .int .i64 y] (grow (redrawn wr d') os) (fun e w'' => e = .returned (.bool (true)) ∧ ∃ p : Regrown, w'' = grow (redrawn wr p.d) p.os) := fun d' os => Calls.regrown_of ((refHas_any (MB.map fun (n : Nat) => (n : Int)) _ y _ (H15.out.later (HB2.out.trans ((below_regrown wr d' os).mono HB2.out.size))) (by rw [List.length_map, ← HN15.out]; omega)).mono fun e w' h => ⟨by rw [h.1, mem_castF, HBV.out], by rw [h.2]; exact Below.refl _ _⟩)
                as_aux_lemma =>
                  go_wp2_with fail
                  have b1 := blk_later HB2.out B1.out
                  have pc13 := cell_regrown c13
                  have pr0 := cell_regrown r0
                  refine wp_region_quiet_below (by kernel_rfl) (by kernel_rfl) ?_; (repeat (go_big_quiet_step (with_reducible exact c1 _ _))); refine wpQuiet_nil ?_; rintro w3 ⟨⟨d3, os3⟩, rfl⟩
                  have HB3 := Lib.hid (HB2.out.trans ((below_regrown wr d3 os3).mono HB2.out.size))
                  clear c1 pc13 pr0 c13 r0 b1
                  dsimp only
                  generalize grow (redrawn wr d3) os3 = w3 at *
                  go_wp2_with fail
                  go_roundw
                  case rel => exact ⟨0 + 1, by omega, by go_num, (by show Value.int .i64 _ = Value.int .i64 _; rw [HCC.out]; try first | rfl | go_num), HB3.out⟩
                  case measure => simp [intOf]; omega
        | succ k =>
          obtain ⟨u, hu⟩ : ∃ u, MA[k]? = some u := ⟨_, List.getElem?_eq_getElem (by rw [← HN13.out]; omega)⟩
          obtain ⟨g9, hg9, -, c9⟩ := (H13.out.later HB.out).get (i := k) (x := (u : Int)) (by rw [List.getElem?_map, hu]; rfl)
          obtain rfl : g13 = g9 := by injection hg9 with hg9; injection hg9
          have huv := HUP.out k u y hu HY.out
          have f8 : decide (y ≤ u) = false := decide_eq_false (by omega)
          clear hu hg9 huv
          go_wp2_with fail
          go_quiet (fail)
          clear c9
          have HB2 : Hid (Below w10.heap.size w10 (wr.drewN nq)) := Lib.hid (bdrewN HB.out nq)
          clear c13 HB
          generalize wr.drewN nq = w11 at *
          obtain ⟨g14, hg14, -, c13⟩ := (H13.out.later HB2.out).get (i := k + 1) (x := (y : Int)) (by rw [List.getElem?_map, HY.out]; rfl)
          obtain rfl : g13 = g14 := by injection hg14 with hg14; injection hg14
          have r0 := (leaf_cells (HL.out.later HB2.out) HX.out).1
          have b1 := blk_later HB2.out B1.out
          have b3 := blk_later HB2.out B3.out
          have p0 := blk_cell b1 0
          have q0 := blk_cell b3 0
          have qf := cell_later' HB2.out HQF.out
          clear hg14
          by_cases hE : x.sheet = s0
          · have g1 : ((x.sheet : Int) == (s0 : Int)) = true := by simp [hE]
            have HBV : Hid (decide (y ∈ MB) = !A) := Lib.hid (by rw [HOT.out, beq_iff_eq.2 hE]; simp)
            have HCC : Hid (((MA.take (k + 1 + 1)).filter (atS ls s0)).length = C + 1) := Lib.hid (by
              rw [HTK.out, List.filter_append, List.length_append, ← HC.out, List.filter_cons_of_pos (by rw [HAT.out, beq_iff_eq.2 hE])]; rfl)
            clear hE HOT HAT HTK HC
            go_wp2_with fail
            clear p0 q0 qf b1 b3
            go_loopw [19, 21] (fun b j w12 => ∃ (j' : Nat), j' ≤ M ∧ j = .int .i64 j' ∧ b = .bool ((f'.folds.take j').any fun c => c == 120) ∧ w12 = w11) (fun _ j _ => M - (intOf j).toNat)
            case atStart => exact ⟨0, by omega, rfl, rfl, rfl⟩
            case round =>
              obtain ⟨q, hq, rfl, rfl, rfl⟩ := hrel
              by_cases hlq : q < M
              · obtain ⟨c, hcq⟩ : ∃ c, f'.folds[q]? = some c := ⟨_, List.getElem?_eq_getElem (by rw [HMM.out]; exact hlq)⟩
                have hst : (f'.folds.take (q + 1)).any (fun c => c == 120) = ((f'.folds.take q).any (fun c => c == 120) || c == 120) := by rw [List.take_add_one, hcq, List.any_append]; simp
                have hby : ∀ h : q < (⟨f'.folds.toArray⟩ : ByteArray).size, (⟨f'.folds.toArray⟩ : ByteArray)[q]'h = c := fun h => by
                  obtain ⟨hk, hc⟩ := List.getElem?_eq_some_iff.1 hcq
                  rw [← hc]; rfl
                have hc2 : c = 120 ∨ c = 121 := by
                  have hm := List.mem_of_getElem? hcq
                  rw [← FN.out.back] at hm
                  unfold bytesF at hm
                  obtain ⟨b, -, rfl⟩ := List.mem_map.1 hm
                  cases b <;> simp
                have HST := Lib.hid hst
                clear hcq hst
                obtain ⟨P0, hP0⟩ : ∃ P0, P0 = (f'.folds.take q).any (fun c => c == 120) := ⟨_, rfl⟩
                rw [← hP0]
                have HP0 := Lib.hid hP0
                clear hP0
                cases P0 with
                | true =>
                  clear hby hc2
                  go_wp2_with fail
                  go_roundw
                  case rel => exact ⟨q + 1, by omega, by go_num, by rw [HST.out, ← HP0.out]; rfl, trivial⟩
                  case measure => simp [intOf]; omega
                | false =>
                  rcases hc2 with rfl | rfl
                  · go_wp2_with fail
                    go_roundw
                    case rel => exact ⟨q + 1, by omega, by go_num, by rw [HST.out, ← HP0.out]; rfl, trivial⟩
                    case measure => simp [intOf]; omega
                  · go_wp2_with fail
                    go_roundw
                    case rel => exact ⟨q + 1, by omega, by go_num, by rw [HST.out, ← HP0.out]; rfl, trivial⟩
                    case measure => simp [intOf]; omega
              · obtain rfl : M = q := by omega
                clear hlq hq
                rw [show (f'.folds.take M).any (fun c => c == 120) = A by rw [← HMM.out, List.take_length, HA.out]; rfl]
                have hBA : ((!A) == A) = false := by cases A <;> rfl
                have c1 : ∀ d' os, Calls Tryz.prog 26 #[.slice a15 N15 cap15, .int .i64 y] (grow (redrawn wr d') os) (fun e w'' => e = .returned (.bool (!A)) ∧ ∃ p : Regrown, w'' = grow (redrawn wr p.d) p.os) := fun d' os => Calls.regrown_of ((refHas_any (MB.map fun (n : Nat) => (n : Int)) _ y _ (H15.out.later (HB2.out.trans ((below_regrown wr d' os).mono HB2.out.size))) (by rw [List.length_map, ← HN15.out]; omega)).mono fun e w' h => ⟨by rw [h.1, mem_castF, HBV.out], by rw [h.2]; exact Below.refl _ _⟩)
                as_aux_lemma =>
                  go_wp2_with fail
                  have b1 := blk_later HB2.out B1.out
                  have pc13 := cell_regrown c13
                  have pr0 := cell_regrown r0
                  refine wp_region_quiet_below (by kernel_rfl) (by kernel_rfl) ?_; (repeat (go_big_quiet_step (with_reducible exact c1 _ _))); refine wpQuiet_nil ?_; rintro w3 ⟨⟨d3, os3⟩, rfl⟩
                  have HB3 := Lib.hid (HB2.out.trans ((below_regrown wr d3 os3).mono HB2.out.size))
                  clear c1 pc13 pr0 c13 r0 b1
                  dsimp only
                  generalize grow (redrawn wr d3) os3 = w3 at *
                  go_wp2_with fail
                  go_roundw
                  case rel => exact ⟨k + 1 + 1, by omega, by go_num, (by show Value.int .i64 _ = Value.int .i64 _; rw [HCC.out]; try first | rfl | go_num), HB3.out⟩
                  case measure => simp [intOf]; omega
          · have g1 : ((x.sheet : Int) == (s0 : Int)) = false := beq_eq_false_iff_ne.2 (by omega)
            have HBV : Hid (decide (y ∈ MB) = true) := Lib.hid (by rw [HOT.out, beq_eq_false_iff_ne.2 hE]; rfl)
            have HCC : Hid (((MA.take (k + 1 + 1)).filter (atS ls s0)).length = C) := Lib.hid (by
              rw [HTK.out, List.filter_append, List.length_append, ← HC.out, List.filter_cons_of_neg (by rw [HAT.out, beq_eq_false_iff_ne.2 hE]; simp)]; rfl)
            clear hE HOT HAT HTK HC
            go_wp2_with fail
            clear p0 q0 qf b1 b3
            go_loopw [19, 21] (fun b j w12 => ∃ (j' : Nat), j' ≤ M ∧ j = .int .i64 j' ∧ b = .bool ((f'.folds.take j').any fun c => c == 120) ∧ w12 = w11) (fun _ j _ => M - (intOf j).toNat)
            case atStart => exact ⟨0, by omega, rfl, rfl, rfl⟩
            case round =>
              obtain ⟨q, hq, rfl, rfl, rfl⟩ := hrel
              by_cases hlq : q < M
              · obtain ⟨c, hcq⟩ : ∃ c, f'.folds[q]? = some c := ⟨_, List.getElem?_eq_getElem (by rw [HMM.out]; exact hlq)⟩
                have hst : (f'.folds.take (q + 1)).any (fun c => c == 120) = ((f'.folds.take q).any (fun c => c == 120) || c == 120) := by rw [List.take_add_one, hcq, List.any_append]; simp
                have hby : ∀ h : q < (⟨f'.folds.toArray⟩ : ByteArray).size, (⟨f'.folds.toArray⟩ : ByteArray)[q]'h = c := fun h => by
                  obtain ⟨hk, hc⟩ := List.getElem?_eq_some_iff.1 hcq
                  rw [← hc]; rfl
                have hc2 : c = 120 ∨ c = 121 := by
                  have hm := List.mem_of_getElem? hcq
                  rw [← FN.out.back] at hm
                  unfold bytesF at hm
                  obtain ⟨b, -, rfl⟩ := List.mem_map.1 hm
                  cases b <;> simp
                have HST := Lib.hid hst
                clear hcq hst
                obtain ⟨P0, hP0⟩ : ∃ P0, P0 = (f'.folds.take q).any (fun c => c == 120) := ⟨_, rfl⟩
                rw [← hP0]
                have HP0 := Lib.hid hP0
                clear hP0
                cases P0 with
                | true =>
                  clear hby hc2
                  go_wp2_with fail
                  go_roundw
                  case rel => exact ⟨q + 1, by omega, by go_num, by rw [HST.out, ← HP0.out]; rfl, trivial⟩
                  case measure => simp [intOf]; omega
                | false =>
                  rcases hc2 with rfl | rfl
                  · go_wp2_with fail
                    go_roundw
                    case rel => exact ⟨q + 1, by omega, by go_num, by rw [HST.out, ← HP0.out]; rfl, trivial⟩
                    case measure => simp [intOf]; omega
                  · go_wp2_with fail
                    go_roundw
                    case rel => exact ⟨q + 1, by omega, by go_num, by rw [HST.out, ← HP0.out]; rfl, trivial⟩
                    case measure => simp [intOf]; omega
              · obtain rfl : M = q := by omega
                clear hlq hq
                rw [show (f'.folds.take M).any (fun c => c == 120) = A by rw [← HMM.out, List.take_length, HA.out]; rfl]
                have hBA : ((!A) == A) = false := by cases A <;> rfl
                have c1 : ∀ d' os, Calls Tryz.prog 26 #[.slice a15 N15 cap15, .int .i64 y] (grow (redrawn wr d') os) (fun e w'' => e = .returned (.bool (true)) ∧ ∃ p : Regrown, w'' = grow (redrawn wr p.d) p.os) := fun d' os => Calls.regrown_of ((refHas_any (MB.map fun (n : Nat) => (n : Int)) _ y _ (H15.out.later (HB2.out.trans ((below_regrown wr d' os).mono HB2.out.size))) (by rw [List.length_map, ← HN15.out]; omega)).mono fun e w' h => ⟨by rw [h.1, mem_castF, HBV.out], by rw [h.2]; exact Below.refl _ _⟩)
                as_aux_lemma =>
                  go_wp2_with fail
                  have b1 := blk_later HB2.out B1.out
                  have pc13 := cell_regrown c13
                  have pr0 := cell_regrown r0
                  refine wp_region_quiet_below (by kernel_rfl) (by kernel_rfl) ?_; (repeat (go_big_quiet_step (with_reducible exact c1 _ _))); refine wpQuiet_nil ?_; rintro w3 ⟨⟨d3, os3⟩, rfl⟩
                  have HB3 := Lib.hid (HB2.out.trans ((below_regrown wr d3 os3).mono HB2.out.size))
                  clear c1 pc13 pr0 c13 r0 b1
                  dsimp only
                  generalize grow (redrawn wr d3) os3 = w3 at *
                  go_wp2_with fail
                  go_roundw
                  case rel => exact ⟨k + 1 + 1, by omega, by go_num, (by show Value.int .i64 _ = Value.int .i64 _; rw [HCC.out]; try first | rfl | go_num), HB3.out⟩
                  case measure => simp [intOf]; omega
      · obtain rfl : N13 = k := by omega
        have HK := HCNT.out
        rw [show MA.take N13 = MA by rw [HN13.out]; exact List.take_length]
        obtain ⟨C, hC⟩ : ∃ C, C = (MA.filter (atS ls s0)).length := ⟨_, rfl⟩
        rw [← hC] at HK ⊢
        clear hC HCNT HOTH HLT HUP H13 H15 HL
        have b3 := blk_later HB.out B3.out
        have q3 := blk_cell b3 3
        have hb7 := hb0.trans (HB.out.mono hb0.size)
        have h3 : C = 1 ∨ C = 2 ∨ C = 4 ∨ (C = 0 ∧ m.half = true) := by
          unfold okCnt at HK
          simp only [Bool.or_eq_true, Bool.and_eq_true, beq_iff_eq] at HK
          rcases HK with ((h | h) | h) | h
          · exact Or.inl h
          · exact Or.inr (Or.inl h)
          · exact Or.inr (Or.inr (Or.inl h))
          · exact Or.inr (Or.inr (Or.inr h))
        clear HK
        have HB7 := Lib.hid hb7
        have HB9 := Lib.hid HB.out
        rcases h3 with rfl | rfl | rfl | ⟨rfl, hh⟩
        · skip
          go_wp2_with fail
          refine (awake_any2 (t := t) (blk_later HB7.out HW.out)).mono ?_
          rintro e w6 ⟨rfl, hb⟩
          have hb6 := HB7.out.trans (hb.mono HB7.out.size)
          clear hb b3 q3
          go_wp2_with fail
          go_ret
          exact ⟨rfl, hb6⟩
        · skip
          go_wp2_with fail
          refine (awake_any2 (t := t) (blk_later HB7.out HW.out)).mono ?_
          rintro e w6 ⟨rfl, hb⟩
          have hb6 := HB7.out.trans (hb.mono HB7.out.size)
          clear hb b3 q3
          go_wp2_with fail
          go_ret
          exact ⟨rfl, hb6⟩
        · skip
          go_wp2_with fail
          refine (awake_any2 (t := t) (blk_later HB7.out HW.out)).mono ?_
          rintro e w6 ⟨rfl, hb⟩
          have hb6 := HB7.out.trans (hb.mono HB7.out.size)
          clear hb b3 q3
          go_wp2_with fail
          go_ret
          exact ⟨rfl, hb6⟩
        · replace q3 : wr.cell? ⟨w3.heap.size, 3, none⟩ = some (.bool true) := by rw [← hh]; exact q3
          clear hh
          go_wp2_with fail
          refine (awake_any2 (t := t) (blk_later HB7.out HW.out)).mono ?_
          rintro e w6 ⟨rfl, hb⟩
          have hb6 := HB7.out.trans (hb.mono HB7.out.size)
          clear hb b3 q3
          go_wp2_with fail
          go_ret
          exact ⟨rfl, hb6⟩
  · have e0 : (ep == 0) = false := by simp [h0]
    clear HEP
    go_wp2_with fail
    refine (awake_any2 (t := t) (blk_later hb0 HW.out)).mono ?_
    rintro e w6 ⟨rfl, hb⟩
    have hb6 := hb0.trans (hb.mono hb0.size)
    clear hb0 hb b1 b2 p0 p1 p2 p3 x0' x1'
    go_wp2_with fail
    go_ret
    exact ⟨rfl, hb6⟩
end Go.Proofs.YtdpiemgdenfkoaaGreatDoor
