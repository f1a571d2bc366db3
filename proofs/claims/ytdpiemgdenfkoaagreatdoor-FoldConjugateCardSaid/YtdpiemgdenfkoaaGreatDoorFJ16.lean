/- The parts Tp of the proof, joined. It holds without conditions of its own. -/
import Derived.Test.YtdpiemgdenfkoaaGreatDoorFJ13
import Derived.Deep.Cut
import Derived.Test.YtdpiemgdenfkoaaGreatDoorFJ15
/- FoldConjugate. -/
namespace Go.Proofs.YtdpiemgdenfkoaaGreatDoor
set_option linter.unusedSimpArgs false
set_option linter.unusedVariables false
open Go Go.RowKit Go.Sort Go.BigFrame

theorem ints_two {W : World} {g : Nat} {x y : Int} {t : TypeId} {f : Nat × Nat} (h : W.heap[g]? = some (.cells #[.int .i64 x, .int .i64 y] t f)) : IntsAt W (.slice (some ⟨g, 0, none⟩) 2 2) [x, y] := by
  refine ⟨_, 2, rfl, fun _ => ⟨g, rfl, blk_lt h, fun i z hz => ?_⟩⟩
  match i, hz with
  | 0, hz => obtain rfl := Option.some.inj hz; exact blk_cell h 0
  | 1, hz => obtain rfl := Option.some.inj hz; exact blk_cell h 1
  | _ + 2, hz => simp at hz
theorem cell_past {W : World} {b i : Nat} {v : Value} (h : W.cell? ⟨b, i, none⟩ = some v) (hb : b < W.heap.size) (o : Obj) : (W.alloc o).cell? ⟨b, i, none⟩ = some v := by
  rw [← h]; exact World.cell?_of_block (heap_alloc_past _ _ _ (by omega))
theorem cell_past2 {W : World} {b i : Nat} {v : Value} (h : W.cell? ⟨b, i, none⟩ = some v) (hb : b < W.heap.size) (o o' : Obj) : ((W.alloc o).alloc o').cell? ⟨b, i, none⟩ = some v :=
  cell_past (cell_past h hb o) (by simp; omega) o'

set_option maxRecDepth 100000 in
set_option maxHeartbeats 4000000 in
theorem FoldConjugate_any (p : Prs) (vp : Value) (x0 x1 : Nat) (hx0 : x0 < 65536) (hx1 : x1 < 65536) (w : World) (t : TypeId) (hp : PrsAt w.heap.size w vp p) (hW : w.heap[0]? = some (.cells tabL.toArray t (0, 0))) :
    Calls Tryz.prog 6 #[vp, .agg #[.int .u16 x0, .int .u16 x1]] w fun e w' => e = .returned (.bool true) ∧ Below w.heap.size w w' := by
  have HP := Lib.hid hp
  have HW := Lib.hid hW
  obtain ⟨fv, pv, rfl, ⟨a, cap, rfl, hfc⟩, ⟨a2, cap2, rfl, -⟩, -⟩ := hp
  have HFC := Lib.hid hfc
  obtain ⟨n1, hn1⟩ : ∃ n, n = p.fmts.length := ⟨_, rfl⟩
  obtain ⟨n2, hn2⟩ : ∃ n, n = p.pprs.length := ⟨_, rfl⟩
  rw [← hn1, ← hn2] at HP ⊢
  have HN1 := Lib.hid hn1
  clear hn1 hn2 hW hfc
  go_enter Tryz.func6, Tryz.ntmps6
  go_wp2_with fail
  have hb0 : Below w.heap.size w ((w.alloc (.cells #[.slice a n1 cap, .slice a2 n2 cap2, .int .i64 p.trim, .int .i64 p.sheets] 25)).alloc (.cells #[.int .u16 x0, .int .u16 x1] 59)) := by exact (by repeat (first | exact Below.refl _ _ | assumption | (refine Below.alloc ?_ ?_ _; rotate_left; · (first | omega | (simp; done) | (simp; omega) | fail)) | (refine Below.setCell ?_ ?_ _; rotate_left; · (first | omega | (simp; done) | (simp; omega) | fail)) | refine Below.drew ?_ | fail))
  have b1 : ((w.alloc (.cells #[.slice a n1 cap, .slice a2 n2 cap2, .int .i64 p.trim, .int .i64 p.sheets] 25)).alloc (.cells #[.int .u16 x0, .int .u16 x1] 59)).heap[w.heap.size]? = some (.cells #[.slice a n1 cap, .slice a2 n2 cap2, .int .i64 p.trim, .int .i64 p.sheets] 25 (0, 0)) := by exact (by repeat (first | exact heap_alloc_at _ _ _ (by (first | omega | (simp; done) | (simp; omega) | (simp at *; omega) | fail)) | assumption | rw [heap_alloc_past _ _ _ (by (first | omega | (simp; done) | (simp; omega) | (simp at *; omega) | fail))] | rw [heap_setCell_past _ _ _ _ (by (first | omega | (simp; done) | (simp; omega) | (simp at *; omega) | fail))] | fail))
  have b2 : ((w.alloc (.cells #[.slice a n1 cap, .slice a2 n2 cap2, .int .i64 p.trim, .int .i64 p.sheets] 25)).alloc (.cells #[.int .u16 x0, .int .u16 x1] 59)).heap[w.heap.size + 1]? = some (.cells #[.int .u16 x0, .int .u16 x1] 59 (0, 0)) := by exact (by repeat (first | exact heap_alloc_at _ _ _ (by (first | omega | (simp; done) | (simp; omega) | (simp at *; omega) | fail)) | assumption | rw [heap_alloc_past _ _ _ (by (first | omega | (simp; done) | (simp; omega) | (simp at *; omega) | fail))] | rw [heap_setCell_past _ _ _ _ (by (first | omega | (simp; done) | (simp; omega) | (simp at *; omega) | fail))] | fail))
  generalize hw1 : ((w.alloc (.cells #[.slice a n1 cap, .slice a2 n2 cap2, .int .i64 p.trim, .int .i64 p.sheets] 25)).alloc (.cells #[.int .u16 x0, .int .u16 x1] 59)) = w1 at *
  clear hw1
  have p0 := blk_cell b1 0
  have p1 := blk_cell b1 1
  have p2 := blk_cell b1 2
  have p3 := blk_cell b1 3
  have x0' := blk_cell b2 0
  have x1' := blk_cell b2 1
  obtain ⟨ep, hep⟩ : ∃ ep, ep = errP p := ⟨_, rfl⟩
  have HEP := Lib.hid hep
  refine (valid2_any p _ _ (HP.out.later hb0)).mono ?_
  rintro e w9 ⟨rfl, hb⟩
  rw [← hep]
  clear hep
  replace b1 := blk_later hb b1
  replace b2 := blk_later hb b2
  replace hb0 := hb0.trans (hb.mono hb0.size)
  clear p0 p1 p2 p3 x0' x1' hb
  generalize w9 = w2 at *
  have p0 := blk_cell b1 0
  have p1 := blk_cell b1 1
  have p2 := blk_cell b1 2
  have p3 := blk_cell b1 3
  have x0' := blk_cell b2 0
  have x1' := blk_cell b2 1
  by_cases h0 : ep = 0
  · have e0 : (ep == 0) = true := by simp [h0]
    have HE := Lib.hid (show errP p = 0 by rw [← HEP.out]; exact h0)
    clear HEP
    subst h0
    clear e0
    go_wp2_with fail
    refine (Made2_any p _ x0 _ (HP.out.later hb0) HE.out hx0).mono ?_
    rintro e w9 ⟨⟨m, rfl, hm⟩, hb⟩
    have HM := Lib.hid hm
    clear hm
    replace b1 := blk_later hb b1
    replace b2 := blk_later hb b2
    replace hb0 := hb0.trans (hb.mono hb0.size)
    clear p0 p1 p2 p3 x0' x1' hb
    generalize w9 = w3 at *
    have p0 := blk_cell b1 0
    have p1 := blk_cell b1 1
    have p2 := blk_cell b1 2
    have p3 := blk_cell b1 3
    have x0' := blk_cell b2 0
    have x1' := blk_cell b2 1
    obtain ⟨m1, m2, m3, m4⟩ := fine_at HE.out HM.out
    obtain ⟨f, hf⟩ : ∃ f, p.fmts[m.fmt.toNat]? = some f := ⟨_, List.getElem?_eq_getElem m2⟩
    have HF := Lib.hid hf
    have FN := Lib.hid (fine_of HE.out HM.out hf)
    clear hf m1 m2 m3 m4
    have hb : Below w3.heap.size w3 (w3.alloc (.cells #[.int .i64 m.fmt, .int .i64 m.ppr, .int .i64 m.sheets, .bool m.half] 38)) := (Below.refl _ _).alloc (Nat.le_refl _) _
    have b3 : (w3.alloc (.cells #[.int .i64 m.fmt, .int .i64 m.ppr, .int .i64 m.sheets, .bool m.half] 38)).heap[w3.heap.size]? = some (.cells #[.int .i64 m.fmt, .int .i64 m.ppr, .int .i64 m.sheets, .bool m.half] 38 (0, 0)) := World.alloc_heap_new _ _
    replace b1 := blk_later hb b1
    replace b2 := blk_later hb b2
    replace hb0 := hb0.trans (hb.mono hb0.size)
    clear p0 p1 p2 p3 x0' x1' hb
    have p0 := blk_cell b1 0
    have p1 := blk_cell b1 1
    have p2 := blk_cell b1 2
    have p3 := blk_cell b1 3
    have x0' := blk_cell b2 0
    have x1' := blk_cell b2 1
    have q0 := blk_cell b3 0
    have q1 := blk_cell b3 1
    have q2 := blk_cell b3 2
    have q3 := blk_cell b3 3
    go_wp2_with fail
    refine (Leaves2_any p m _ _ (HP.out.later hb0) HE.out HM.out).mono ?_
    rintro e w9 ⟨⟨f', lv, g, hfx, rfl, hl, -⟩, hb⟩
    obtain rfl : f' = f := Option.some.inj (hfx.symm.trans HF.out)
    clear hfx
    obtain ⟨ls, hls⟩ : ∃ ls, ls = leavesW m f' := ⟨_, rfl⟩
    have hcnt := FN.out.count
    have HCJ := Lib.hid FN.out.conj
    rw [← hls] at HCJ hcnt
    rw [show leavesF (fdsB f'.folds) m.sheets.toNat m.half = ls from hls.symm] at hl
    have HLS := Lib.hid hls
    have HL := Lib.hid hl
    obtain ⟨k7, rest, rfl, -⟩ := hl
    obtain ⟨N, hN⟩ : ∃ N, N = ls.length := ⟨_, rfl⟩
    rw [← hN] at HL hcnt ⊢
    have HN := Lib.hid hN
    obtain ⟨hc1, hc64⟩ := hcnt
    clear hls hN
    generalize hB : w3.heap.size = B at *
    clear hB
    replace b1 := blk_later hb b1
    replace b2 := blk_later hb b2
    replace b3 := blk_later hb b3
    replace hb0 := hb0.trans (hb.mono hb0.size)
    clear p0 p1 p2 p3 x0' x1' q0 q1 q2 q3 hb
    generalize w9 = w4 at *
    have p0 := blk_cell b1 0
    have p1 := blk_cell b1 1
    have p2 := blk_cell b1 2
    have p3 := blk_cell b1 3
    have x0' := blk_cell b2 0
    have x1' := blk_cell b2 1
    have q0 := blk_cell b3 0
    have q1 := blk_cell b3 1
    have q2 := blk_cell b3 2
    have q3 := blk_cell b3 3
    have e1 : ((N : Int) == 0) = false := by simp; omega
    have hi : x1 % N < N := Nat.mod_lt _ (by omega)
    have i1 : (x1 : Int) % (N : Int) = ((x1 % N : Nat) : Int) := (Int.natCast_emod _ _).symm
    obtain ⟨i, hii⟩ : ∃ i, i = x1 % N := ⟨_, rfl⟩
    rw [← hii] at hi i1
    clear hii
    go_wp2_with fail
    rw [i1]
    clear i1
    refine (Mates_any p m f' ls i _ _ (HP.out.later hb0) HE.out HM.out HF.out HLS.out (by rw [← HN.out]; omega) (by rw [← HN.out]; exact hi)).mono ?_
    rintro e w9 ⟨⟨v5, rfl, hv⟩, hb⟩
    obtain ⟨k, hk⟩ : ∃ k, k = N - 1 - i := ⟨_, rfl⟩
    rw [show ls.length - 1 - i = k by rw [← HN.out]; exact hk.symm]
    have HV := Lib.hid hv
    have HL5 := Lib.hid (HL.out.later hb)
    have hkN : k < N := by omega
    have HKI : Hid (i = N - 1 - k) := Lib.hid (by omega)
    have HMT : Hid (decide (((k : Nat) : Int) ∈ (matesF ls i).map fun (n : Nat) => (n : Int)) = true) := Lib.hid (decide_eq_true (List.mem_map.2 ⟨k, by
      have := conj_mate HCJ.out (i := i) (by rw [← HN.out]; exact hi)
      rw [← HN.out, ← hk] at this; exact this, rfl⟩))
    clear HL hv hk
    replace b1 := blk_later hb b1
    replace b2 := blk_later hb b2
    replace b3 := blk_later hb b3
    replace hb0 := hb0.trans (hb.mono hb0.size)
    clear p0 p1 p2 p3 x0' x1' q0 q1 q2 q3 hb
    generalize w9 = w5 at *
    have p0 := blk_cell b1 0
    have p1 := blk_cell b1 1
    have p2 := blk_cell b1 2
    have p3 := blk_cell b1 3
    have x0' := blk_cell b2 0
    have x1' := blk_cell b2 1
    have q0 := blk_cell b3 0
    have q1 := blk_cell b3 1
    have q2 := blk_cell b3 2
    have q3 := blk_cell b3 3
    have e2 : ((k : Int) < 0) = False := by simp
    have e3 : decide ((k : Int) ≥ (N : Int)) = false := decide_eq_false (by omega)
    go_wp2_with fail
    refine (refHas_any _ v5 k w5 HV.out (by
      rw [List.length_map, matesF_is]
      have := range_filter_len (mateB ls i) ls.length
      rw [← HN.out] at this ⊢
      omega)).mono ?_
    rintro e w9 ⟨rfl, rfl⟩
    rw [HMT.out]
    clear HMT HV
    go_wp2_with fail
    refine (Mates_any p m f' ls k _ _ (HP.out.later hb0) HE.out HM.out HF.out HLS.out (by rw [← HN.out]; omega) (by rw [← HN.out]; exact hkN)).mono ?_
    rintro e w9 ⟨⟨v6, rfl, hv⟩, hb⟩
    rw [show ls.length - 1 - k = i by rw [← HN.out]; exact HKI.out.symm]
    have HL6 := Lib.hid (HL5.out.later hb)
    clear HL5 hv
    replace b1 := blk_later hb b1
    replace b2 := blk_later hb b2
    replace b3 := blk_later hb b3
    replace hb0 := hb0.trans (hb.mono hb0.size)
    clear p0 p1 p2 p3 x0' x1' q0 q1 q2 q3 hb
    generalize w9 = w6 at *
    have p0 := blk_cell b1 0
    have p1 := blk_cell b1 1
    have p2 := blk_cell b1 2
    have p3 := blk_cell b1 3
    have x0' := blk_cell b2 0
    have x1' := blk_cell b2 1
    have q0 := blk_cell b3 0
    have q1 := blk_cell b3 1
    have q2 := blk_cell b3 2
    have q3 := blk_cell b3 3
    obtain ⟨y, z, hy, hz, g1, g2, g3, g4⟩ := conj_is HCJ.out (i := i) (by rw [← HN.out]; exact hi)
    rw [show ls.length - 1 - i = k by rw [← HN.out]; have := HKI.out; omega] at hz
    obtain ⟨r0, r1, r2, r3, r4⟩ := leaf_cells HL6.out hy
    obtain ⟨s0, s1, s2, s3, s4⟩ := leaf_cells HL6.out hz
    have G := Lib.hid (And.intro g1 (And.intro g2 (And.intro g3 g4)))
    clear hy hz g1 g2 g3 g4
    go_wp2_with fail
    have ky : g < w6.heap.size := lt_of_cell r0
    have ar0 := cell_past r0 ky
    have ar1 := cell_past r1 ky
    have ar2 := cell_past r2 ky
    have ar3 := cell_past r3 ky
    have ar4 := cell_past r4 ky
    have as0 := cell_past s0 ky
    have as1 := cell_past s1 ky
    have as2 := cell_past s2 ky
    have as3 := cell_past s3 ky
    have as4 := cell_past s4 ky
    have br0 := cell_past2 r0 ky
    have br1 := cell_past2 r1 ky
    have br2 := cell_past2 r2 ky
    have br3 := cell_past2 r3 ky
    have br4 := cell_past2 r4 ky
    have bs0 := cell_past2 s0 ky
    have bs1 := cell_past2 s1 ky
    have bs2 := cell_past2 s2 ky
    have bs3 := cell_past2 s3 ky
    have bs4 := cell_past2 s4 ky
    go_region
    · skip
      have hb : Below w6.heap.size w6 ((w6.alloc (.cells #[.int .i64 y.sheet, .int .i64 y.col, .int .i64 y.row, .bool y.inner, .bool y.turned] 57)).alloc (.cells #[.int .i64 z.sheet, .int .i64 z.col, .int .i64 z.row, .bool z.inner, .bool z.turned] 57)).drew := (((Below.refl _ _).alloc (Nat.le_refl _) _).alloc (by simp) _).drew
      have ba : (((w6.alloc (.cells #[.int .i64 y.sheet, .int .i64 y.col, .int .i64 y.row, .bool y.inner, .bool y.turned] 57)).alloc (.cells #[.int .i64 z.sheet, .int .i64 z.col, .int .i64 z.row, .bool z.inner, .bool z.turned] 57)).drew).heap[w6.heap.size]? = some (.cells #[.int .i64 y.sheet, .int .i64 y.col, .int .i64 y.row, .bool y.inner, .bool y.turned] 57 (0, 0)) := (heap_alloc_past _ _ _ (by simp)).trans (World.alloc_heap_new _ _)
      have bb : (((w6.alloc (.cells #[.int .i64 y.sheet, .int .i64 y.col, .int .i64 y.row, .bool y.inner, .bool y.turned] 57)).alloc (.cells #[.int .i64 z.sheet, .int .i64 z.col, .int .i64 z.row, .bool z.inner, .bool z.turned] 57)).drew).heap[w6.heap.size + 1]? = some (.cells #[.int .i64 z.sheet, .int .i64 z.col, .int .i64 z.row, .bool z.inner, .bool z.turned] 57 (0, 0)) := heap_alloc_at _ _ _ (by simp)
      clear ar0 ar1 ar2 ar3 ar4 as0 as1 as2 as3 as4 br0 br1 br2 br3 br4 bs0 bs1 bs2 bs3 bs4 r0 r1 r2 r3 r4 s0 s1 s2 s3 s4
      generalize hw9 : ((w6.alloc (.cells #[.int .i64 y.sheet, .int .i64 y.col, .int .i64 y.row, .bool y.inner, .bool y.turned] 57)).alloc (.cells #[.int .i64 z.sheet, .int .i64 z.col, .int .i64 z.row, .bool z.inner, .bool z.turned] 57)).drew = w9 at *
      clear hw9
      replace b1 := blk_later hb b1
      replace b2 := blk_later hb b2
      replace b3 := blk_later hb b3
      replace hb0 := hb0.trans (hb.mono hb0.size)
      clear p0 p1 p2 p3 x0' x1' q0 q1 q2 q3 hb
      generalize w9 = w7 at *
      have p0 := blk_cell b1 0
      have p1 := blk_cell b1 1
      have p2 := blk_cell b1 2
      have p3 := blk_cell b1 3
      have x0' := blk_cell b2 0
      have x1' := blk_cell b2 1
      have q0 := blk_cell b3 0
      have q1 := blk_cell b3 1
      have q2 := blk_cell b3 2
      have q3 := blk_cell b3 3
      have c0 := blk_cell ba 0
      have c1 := blk_cell ba 1
      have c2 := blk_cell ba 2
      have c3 := blk_cell ba 3
      have c4 := blk_cell ba 4
      have d0 := blk_cell bb 0
      have d1 := blk_cell bb 1
      have d2 := blk_cell bb 2
      have d3 := blk_cell bb 3
      have d4 := blk_cell bb 4
      clear HL6 ky
      generalize w6.heap.size = B6 at *
      obtain ⟨m1, m2, -, -⟩ := fine_at HE.out HM.out
      rw [← HN1.out] at m2
      have m3 : m.fmt < (n1 : Int) := by omega
      obtain ⟨b', off, rfl, hb', hc⟩ := HFC.out (fun h => by have := HF.out; rw [h] at this; simp at this)
      have qf : w7.cell? ⟨b', off + m.fmt.toNat * 2 + 1, none⟩ = some (S f'.folds) := cell_later' hb0 (by have := hc m.fmt.toNat f' HF.out 1 _ rfl; simpa using this)
      obtain ⟨M, hM⟩ : ∃ M, f'.folds.length = M + 1 := ⟨f'.folds.length - 1, by have := FN.out.len1; omega⟩
      have hzs : (⟨f'.folds.toArray⟩ : ByteArray).size = M + 1 := (size_bytes f'.folds).trans hM
      have hlb := last_byte FN.out.back hM
      obtain ⟨g1, g2, g3, g4⟩ := G.out
      have hM4 : M < 4 := by have := FN.out.len4; omega
      clear hc hb' G hM
      cases hl : lastF (fdsB f'.folds) with
      | true =>
        rw [hl] at hlb g2
        have hby : ∀ h : M < (⟨f'.folds.toArray⟩ : ByteArray).size, (⟨f'.folds.toArray⟩ : ByteArray)[M]'h = 120 := fun h => by
          obtain ⟨hk, hc⟩ := List.getElem?_eq_some_iff.1 hlb
          rw [if_pos rfl] at hc
          rw [← hc]; rfl
        obtain ⟨g5, g6⟩ := (if_pos (c := (true = true)) rfl).mp g2
        clear g2 hlb
        obtain ⟨ys, yc, yr, yi, yt⟩ := y
        obtain ⟨zs, zc, zr, zi, zt⟩ := z
        dsimp only at g1 g3 g4 g5 g6 c0 c1 c2 c3 c4 d0 d1 d2 d3 d4
        subst g1 g3 g5
        obtain rfl : zi = !yi := by cases yi <;> cases zi <;> simp at g4 ⊢
        clear g4
        rcases g6 with rfl | rfl
        · skip
          go_upto_region 15 with fail
          have hb : Below w7.heap.size w7 ((w7.alloc (.cells #[.int .i64 ((zc : Int) + 1 - zc), .int .i64 (0)] 3)).alloc (.cells #[.int .i64 0, .int .i64 1] 3)) := ((Below.refl _ _).alloc (Nat.le_refl _) _).alloc (by simp) _
          have bf : ((w7.alloc (.cells #[.int .i64 ((zc : Int) + 1 - zc), .int .i64 (0)] 3)).alloc (.cells #[.int .i64 0, .int .i64 1] 3)).heap[w7.heap.size]? = some (.cells #[.int .i64 ((zc : Int) + 1 - zc), .int .i64 (0)] 3 (0, 0)) := (heap_alloc_past _ _ _ (by simp)).trans (World.alloc_heap_new _ _)
          have bw : ((w7.alloc (.cells #[.int .i64 ((zc : Int) + 1 - zc), .int .i64 (0)] 3)).alloc (.cells #[.int .i64 0, .int .i64 1] 3)).heap[w7.heap.size + 1]? = some (.cells #[.int .i64 0, .int .i64 1] 3 (0, 0)) := heap_alloc_at _ _ _ (by simp)
          generalize hw9 : ((w7.alloc (.cells #[.int .i64 ((zc : Int) + 1 - zc), .int .i64 (0)] 3)).alloc (.cells #[.int .i64 0, .int .i64 1] 3)) = w9 at *
          clear hw9
          replace b1 := blk_later hb b1
          replace b2 := blk_later hb b2
          replace b3 := blk_later hb b3
          replace ba := blk_later hb ba
          replace bb := blk_later hb bb
          replace qf := cell_later' hb qf
          replace hb0 := hb0.trans (hb.mono hb0.size)
          clear p0 p1 p2 p3 x0' x1' q0 q1 q2 q3 c0 c1 c2 c3 c4 d0 d1 d2 d3 d4 hb
          generalize w9 = w8 at *
          have p0 := blk_cell b1 0
          have p1 := blk_cell b1 1
          have p2 := blk_cell b1 2
          have p3 := blk_cell b1 3
          have x0' := blk_cell b2 0
          have x1' := blk_cell b2 1
          have q0 := blk_cell b3 0
          have q1 := blk_cell b3 1
          have q2 := blk_cell b3 2
          have q3 := blk_cell b3 3
          have c0 := blk_cell ba 0
          have c1 := blk_cell ba 1
          have c2 := blk_cell ba 2
          have c3 := blk_cell ba 3
          have c4 := blk_cell ba 4
          have d0 := blk_cell bb 0
          have d1 := blk_cell bb 1
          have d2 := blk_cell bb 2
          have d3 := blk_cell bb 3
          have d4 := blk_cell bb 4
          generalize w7.heap.size = B7 at *
          go_upto_region 18 with fail
          have hb : Below w8.heap.size w8 (w8.alloc (.cells #[.int .i64 1, .int .i64 0] 3)) := (Below.refl _ _).alloc (Nat.le_refl _) _
          have bv : (w8.alloc (.cells #[.int .i64 1, .int .i64 0] 3)).heap[w8.heap.size]? = some (.cells #[.int .i64 1, .int .i64 0] 3 (0, 0)) := World.alloc_heap_new _ _
          replace bf := blk_later hb bf
          clear bw
          generalize hw9 : (w8.alloc (.cells #[.int .i64 1, .int .i64 0] 3)) = w9 at *
          clear hw9
          replace b1 := blk_later hb b1
          replace b2 := blk_later hb b2
          replace b3 := blk_later hb b3
          replace ba := blk_later hb ba
          replace bb := blk_later hb bb
          replace qf := cell_later' hb qf
          replace hb0 := hb0.trans (hb.mono hb0.size)
          clear p0 p1 p2 p3 x0' x1' q0 q1 q2 q3 c0 c1 c2 c3 c4 d0 d1 d2 d3 d4 hb
          generalize w9 = w10 at *
          have p0 := blk_cell b1 0
          have p1 := blk_cell b1 1
          have p2 := blk_cell b1 2
          have p3 := blk_cell b1 3
          have x0' := blk_cell b2 0
          have x1' := blk_cell b2 1
          have q0 := blk_cell b3 0
          have q1 := blk_cell b3 1
          have q2 := blk_cell b3 2
          have q3 := blk_cell b3 3
          have c0 := blk_cell ba 0
          have c1 := blk_cell ba 1
          have c2 := blk_cell ba 2
          have c3 := blk_cell ba 3
          have c4 := blk_cell ba 4
          have d0 := blk_cell bb 0
          have d1 := blk_cell bb 1
          have d2 := blk_cell bb 2
          have d3 := blk_cell bb 3
          have d4 := blk_cell bb 4
          generalize w8.heap.size = B8 at *
          go_wp2_with fail
          refine (Ints_any [(zc : Int) + 1 - zc, 0] [1, 0] _ _ _ (ints_two bf) (ints_two bv) (by simp) (by simp)).mono ?_
          rintro e w9 ⟨rfl, hb⟩
          rw [show decide (([(zc : Int) + 1 - zc, 0] : List Int) = [1, 0]) = true from decide_eq_true (List.cons_eq_cons.2 ⟨by omega, List.cons_eq_cons.2 ⟨by omega, rfl⟩⟩)]
          clear bf bv
          replace b1 := blk_later hb b1
          replace b2 := blk_later hb b2
          replace b3 := blk_later hb b3
          replace ba := blk_later hb ba
          replace bb := blk_later hb bb
          replace qf := cell_later' hb qf
          replace hb0 := hb0.trans (hb.mono hb0.size)
          clear p0 p1 p2 p3 x0' x1' q0 q1 q2 q3 c0 c1 c2 c3 c4 d0 d1 d2 d3 d4 hb
          generalize w9 = w11 at *
          have p0 := blk_cell b1 0
          have p1 := blk_cell b1 1
          have p2 := blk_cell b1 2
          have p3 := blk_cell b1 3
          have x0' := blk_cell b2 0
          have x1' := blk_cell b2 1
          have q0 := blk_cell b3 0
          have q1 := blk_cell b3 1
          have q2 := blk_cell b3 2
          have q3 := blk_cell b3 3
          have c0 := blk_cell ba 0
          have c1 := blk_cell ba 1
          have c2 := blk_cell ba 2
          have c3 := blk_cell ba 3
          have c4 := blk_cell ba 4
          have d0 := blk_cell bb 0
          have d1 := blk_cell bb 1
          have d2 := blk_cell bb 2
          have d3 := blk_cell bb 3
          have d4 := blk_cell bb 4
          go_wp2_with fail
          refine (awake_any2 (t := t) (blk_later hb0 HW.out)).mono ?_
          rintro e w6 ⟨rfl, hb⟩
          have hb6 := hb0.trans (hb.mono hb0.size)
          clear hb0 hb b1 b2 b3 ba bb qf p0 p1 p2 p3 x0' x1' q0 q1 q2 q3 c0 c1 c2 c3 c4 d0 d1 d2 d3 d4
          go_wp2_with fail
          go_ret
          exact ⟨by first | rfl | (cases yi <;> rfl), hb6⟩
        · skip
          go_upto_region 15 with fail
          have hb : Below w7.heap.size w7 ((w7.alloc (.cells #[.int .i64 ((yc : Int) + 1 - yc), .int .i64 (0)] 3)).alloc (.cells #[.int .i64 0, .int .i64 1] 3)) := ((Below.refl _ _).alloc (Nat.le_refl _) _).alloc (by simp) _
          have bf : ((w7.alloc (.cells #[.int .i64 ((yc : Int) + 1 - yc), .int .i64 (0)] 3)).alloc (.cells #[.int .i64 0, .int .i64 1] 3)).heap[w7.heap.size]? = some (.cells #[.int .i64 ((yc : Int) + 1 - yc), .int .i64 (0)] 3 (0, 0)) := (heap_alloc_past _ _ _ (by simp)).trans (World.alloc_heap_new _ _)
          have bw : ((w7.alloc (.cells #[.int .i64 ((yc : Int) + 1 - yc), .int .i64 (0)] 3)).alloc (.cells #[.int .i64 0, .int .i64 1] 3)).heap[w7.heap.size + 1]? = some (.cells #[.int .i64 0, .int .i64 1] 3 (0, 0)) := heap_alloc_at _ _ _ (by simp)
          generalize hw9 : ((w7.alloc (.cells #[.int .i64 ((yc : Int) + 1 - yc), .int .i64 (0)] 3)).alloc (.cells #[.int .i64 0, .int .i64 1] 3)) = w9 at *
          clear hw9
          replace b1 := blk_later hb b1
          replace b2 := blk_later hb b2
          replace b3 := blk_later hb b3
          replace ba := blk_later hb ba
          replace bb := blk_later hb bb
          replace qf := cell_later' hb qf
          replace hb0 := hb0.trans (hb.mono hb0.size)
          clear p0 p1 p2 p3 x0' x1' q0 q1 q2 q3 c0 c1 c2 c3 c4 d0 d1 d2 d3 d4 hb
          generalize w9 = w8 at *
          have p0 := blk_cell b1 0
          have p1 := blk_cell b1 1
          have p2 := blk_cell b1 2
          have p3 := blk_cell b1 3
          have x0' := blk_cell b2 0
          have x1' := blk_cell b2 1
          have q0 := blk_cell b3 0
          have q1 := blk_cell b3 1
          have q2 := blk_cell b3 2
          have q3 := blk_cell b3 3
          have c0 := blk_cell ba 0
          have c1 := blk_cell ba 1
          have c2 := blk_cell ba 2
          have c3 := blk_cell ba 3
          have c4 := blk_cell ba 4
          have d0 := blk_cell bb 0
          have d1 := blk_cell bb 1
          have d2 := blk_cell bb 2
          have d3 := blk_cell bb 3
          have d4 := blk_cell bb 4
          generalize w7.heap.size = B7 at *
          go_upto_region 18 with fail
          have hb : Below w8.heap.size w8 (w8.alloc (.cells #[.int .i64 1, .int .i64 0] 3)) := (Below.refl _ _).alloc (Nat.le_refl _) _
          have bv : (w8.alloc (.cells #[.int .i64 1, .int .i64 0] 3)).heap[w8.heap.size]? = some (.cells #[.int .i64 1, .int .i64 0] 3 (0, 0)) := World.alloc_heap_new _ _
          replace bf := blk_later hb bf
          clear bw
          generalize hw9 : (w8.alloc (.cells #[.int .i64 1, .int .i64 0] 3)) = w9 at *
          clear hw9
          replace b1 := blk_later hb b1
          replace b2 := blk_later hb b2
          replace b3 := blk_later hb b3
          replace ba := blk_later hb ba
          replace bb := blk_later hb bb
          replace qf := cell_later' hb qf
          replace hb0 := hb0.trans (hb.mono hb0.size)
          clear p0 p1 p2 p3 x0' x1' q0 q1 q2 q3 c0 c1 c2 c3 c4 d0 d1 d2 d3 d4 hb
          generalize w9 = w10 at *
          have p0 := blk_cell b1 0
          have p1 := blk_cell b1 1
          have p2 := blk_cell b1 2
          have p3 := blk_cell b1 3
          have x0' := blk_cell b2 0
          have x1' := blk_cell b2 1
          have q0 := blk_cell b3 0
          have q1 := blk_cell b3 1
          have q2 := blk_cell b3 2
          have q3 := blk_cell b3 3
          have c0 := blk_cell ba 0
          have c1 := blk_cell ba 1
          have c2 := blk_cell ba 2
          have c3 := blk_cell ba 3
          have c4 := blk_cell ba 4
          have d0 := blk_cell bb 0
          have d1 := blk_cell bb 1
          have d2 := blk_cell bb 2
          have d3 := blk_cell bb 3
          have d4 := blk_cell bb 4
          generalize w8.heap.size = B8 at *
          go_wp2_with fail
          refine (Ints_any [(yc : Int) + 1 - yc, 0] [1, 0] _ _ _ (ints_two bf) (ints_two bv) (by simp) (by simp)).mono ?_
          rintro e w9 ⟨rfl, hb⟩
          rw [show decide (([(yc : Int) + 1 - yc, 0] : List Int) = [1, 0]) = true from decide_eq_true (List.cons_eq_cons.2 ⟨by omega, List.cons_eq_cons.2 ⟨by omega, rfl⟩⟩)]
          clear bf bv
          replace b1 := blk_later hb b1
          replace b2 := blk_later hb b2
          replace b3 := blk_later hb b3
          replace ba := blk_later hb ba
          replace bb := blk_later hb bb
          replace qf := cell_later' hb qf
          replace hb0 := hb0.trans (hb.mono hb0.size)
          clear p0 p1 p2 p3 x0' x1' q0 q1 q2 q3 c0 c1 c2 c3 c4 d0 d1 d2 d3 d4 hb
          generalize w9 = w11 at *
          have p0 := blk_cell b1 0
          have p1 := blk_cell b1 1
          have p2 := blk_cell b1 2
          have p3 := blk_cell b1 3
          have x0' := blk_cell b2 0
          have x1' := blk_cell b2 1
          have q0 := blk_cell b3 0
          have q1 := blk_cell b3 1
          have q2 := blk_cell b3 2
          have q3 := blk_cell b3 3
          have c0 := blk_cell ba 0
          have c1 := blk_cell ba 1
          have c2 := blk_cell ba 2
          have c3 := blk_cell ba 3
          have c4 := blk_cell ba 4
          have d0 := blk_cell bb 0
          have d1 := blk_cell bb 1
          have d2 := blk_cell bb 2
          have d3 := blk_cell bb 3
          have d4 := blk_cell bb 4
          go_wp2_with fail
          refine (awake_any2 (t := t) (blk_later hb0 HW.out)).mono ?_
          rintro e w6 ⟨rfl, hb⟩
          have hb6 := hb0.trans (hb.mono hb0.size)
          clear hb0 hb b1 b2 b3 ba bb qf p0 p1 p2 p3 x0' x1' q0 q1 q2 q3 c0 c1 c2 c3 c4 d0 d1 d2 d3 d4
          go_wp2_with fail
          go_ret
          exact ⟨by first | rfl | (cases yi <;> rfl), hb6⟩
      | false =>
        rw [hl] at hlb g2
        have hby : ∀ h : M < (⟨f'.folds.toArray⟩ : ByteArray).size, (⟨f'.folds.toArray⟩ : ByteArray)[M]'h = 121 := fun h => by
          obtain ⟨hk, hc⟩ := List.getElem?_eq_some_iff.1 hlb
          rw [if_neg (by simp)] at hc
          rw [← hc]; rfl
        have h121 : ((((121 : UInt8).toNat : Nat) : Int) == 120) = false := rfl
        have h122 : ((121 : Int) == 120) = false := rfl
        obtain ⟨g5, g6⟩ := (if_neg (c := (false = true)) (by simp)).mp g2
        clear g2 hlb
        obtain ⟨ys, yc, yr, yi, yt⟩ := y
        obtain ⟨zs, zc, zr, zi, zt⟩ := z
        dsimp only at g1 g3 g4 g5 g6 c0 c1 c2 c3 c4 d0 d1 d2 d3 d4
        subst g1 g3 g5
        obtain rfl : zi = !yi := by cases yi <;> cases zi <;> simp at g4 ⊢
        clear g4
        rcases g6 with rfl | rfl
        · skip
          go_upto_region 15 with fail
          have hb : Below w7.heap.size w7 ((w7.alloc (.cells #[.int .i64 (0), .int .i64 ((zr : Int) + 1 - zr)] 3)).alloc (.cells #[.int .i64 0, .int .i64 1] 3)) := ((Below.refl _ _).alloc (Nat.le_refl _) _).alloc (by simp) _
          have bf : ((w7.alloc (.cells #[.int .i64 (0), .int .i64 ((zr : Int) + 1 - zr)] 3)).alloc (.cells #[.int .i64 0, .int .i64 1] 3)).heap[w7.heap.size]? = some (.cells #[.int .i64 (0), .int .i64 ((zr : Int) + 1 - zr)] 3 (0, 0)) := (heap_alloc_past _ _ _ (by simp)).trans (World.alloc_heap_new _ _)
          have bw : ((w7.alloc (.cells #[.int .i64 (0), .int .i64 ((zr : Int) + 1 - zr)] 3)).alloc (.cells #[.int .i64 0, .int .i64 1] 3)).heap[w7.heap.size + 1]? = some (.cells #[.int .i64 0, .int .i64 1] 3 (0, 0)) := heap_alloc_at _ _ _ (by simp)
          generalize hw9 : ((w7.alloc (.cells #[.int .i64 (0), .int .i64 ((zr : Int) + 1 - zr)] 3)).alloc (.cells #[.int .i64 0, .int .i64 1] 3)) = w9 at *
          clear hw9
          replace b1 := blk_later hb b1
          replace b2 := blk_later hb b2
          replace b3 := blk_later hb b3
          replace ba := blk_later hb ba
          replace bb := blk_later hb bb
          replace qf := cell_later' hb qf
          replace hb0 := hb0.trans (hb.mono hb0.size)
          clear p0 p1 p2 p3 x0' x1' q0 q1 q2 q3 c0 c1 c2 c3 c4 d0 d1 d2 d3 d4 hb
          generalize w9 = w8 at *
          have p0 := blk_cell b1 0
          have p1 := blk_cell b1 1
          have p2 := blk_cell b1 2
          have p3 := blk_cell b1 3
          have x0' := blk_cell b2 0
          have x1' := blk_cell b2 1
          have q0 := blk_cell b3 0
          have q1 := blk_cell b3 1
          have q2 := blk_cell b3 2
          have q3 := blk_cell b3 3
          have c0 := blk_cell ba 0
          have c1 := blk_cell ba 1
          have c2 := blk_cell ba 2
          have c3 := blk_cell ba 3
          have c4 := blk_cell ba 4
          have d0 := blk_cell bb 0
          have d1 := blk_cell bb 1
          have d2 := blk_cell bb 2
          have d3 := blk_cell bb 3
          have d4 := blk_cell bb 4
          generalize w7.heap.size = B7 at *
          go_wp2_with fail
          refine (Ints_any [0, (zr : Int) + 1 - zr] [0, 1] _ _ _ (ints_two bf) (ints_two bw) (by simp) (by simp)).mono ?_
          rintro e w9 ⟨rfl, hb⟩
          rw [show decide (([0, (zr : Int) + 1 - zr] : List Int) = [0, 1]) = true from decide_eq_true (List.cons_eq_cons.2 ⟨by omega, List.cons_eq_cons.2 ⟨by omega, rfl⟩⟩)]
          clear bf bw
          replace b1 := blk_later hb b1
          replace b2 := blk_later hb b2
          replace b3 := blk_later hb b3
          replace ba := blk_later hb ba
          replace bb := blk_later hb bb
          replace qf := cell_later' hb qf
          replace hb0 := hb0.trans (hb.mono hb0.size)
          clear p0 p1 p2 p3 x0' x1' q0 q1 q2 q3 c0 c1 c2 c3 c4 d0 d1 d2 d3 d4 hb
          generalize w9 = w11 at *
          have p0 := blk_cell b1 0
          have p1 := blk_cell b1 1
          have p2 := blk_cell b1 2
          have p3 := blk_cell b1 3
          have x0' := blk_cell b2 0
          have x1' := blk_cell b2 1
          have q0 := blk_cell b3 0
          have q1 := blk_cell b3 1
          have q2 := blk_cell b3 2
          have q3 := blk_cell b3 3
          have c0 := blk_cell ba 0
          have c1 := blk_cell ba 1
          have c2 := blk_cell ba 2
          have c3 := blk_cell ba 3
          have c4 := blk_cell ba 4
          have d0 := blk_cell bb 0
          have d1 := blk_cell bb 1
          have d2 := blk_cell bb 2
          have d3 := blk_cell bb 3
          have d4 := blk_cell bb 4
          go_wp2_with fail
          refine (awake_any2 (t := t) (blk_later hb0 HW.out)).mono ?_
          rintro e w6 ⟨rfl, hb⟩
          have hb6 := hb0.trans (hb.mono hb0.size)
          clear hb0 hb b1 b2 b3 ba bb qf p0 p1 p2 p3 x0' x1' q0 q1 q2 q3 c0 c1 c2 c3 c4 d0 d1 d2 d3 d4
          go_wp2_with fail
          go_ret
          exact ⟨by first | rfl | (cases yi <;> rfl), hb6⟩
        · skip
          go_upto_region 15 with fail
          have hb : Below w7.heap.size w7 ((w7.alloc (.cells #[.int .i64 (0), .int .i64 ((yr : Int) + 1 - yr)] 3)).alloc (.cells #[.int .i64 0, .int .i64 1] 3)) := ((Below.refl _ _).alloc (Nat.le_refl _) _).alloc (by simp) _
          have bf : ((w7.alloc (.cells #[.int .i64 (0), .int .i64 ((yr : Int) + 1 - yr)] 3)).alloc (.cells #[.int .i64 0, .int .i64 1] 3)).heap[w7.heap.size]? = some (.cells #[.int .i64 (0), .int .i64 ((yr : Int) + 1 - yr)] 3 (0, 0)) := (heap_alloc_past _ _ _ (by simp)).trans (World.alloc_heap_new _ _)
          have bw : ((w7.alloc (.cells #[.int .i64 (0), .int .i64 ((yr : Int) + 1 - yr)] 3)).alloc (.cells #[.int .i64 0, .int .i64 1] 3)).heap[w7.heap.size + 1]? = some (.cells #[.int .i64 0, .int .i64 1] 3 (0, 0)) := heap_alloc_at _ _ _ (by simp)
          generalize hw9 : ((w7.alloc (.cells #[.int .i64 (0), .int .i64 ((yr : Int) + 1 - yr)] 3)).alloc (.cells #[.int .i64 0, .int .i64 1] 3)) = w9 at *
          clear hw9
          replace b1 := blk_later hb b1
          replace b2 := blk_later hb b2
          replace b3 := blk_later hb b3
          replace ba := blk_later hb ba
          replace bb := blk_later hb bb
          replace qf := cell_later' hb qf
          replace hb0 := hb0.trans (hb.mono hb0.size)
          clear p0 p1 p2 p3 x0' x1' q0 q1 q2 q3 c0 c1 c2 c3 c4 d0 d1 d2 d3 d4 hb
          generalize w9 = w8 at *
          have p0 := blk_cell b1 0
          have p1 := blk_cell b1 1
          have p2 := blk_cell b1 2
          have p3 := blk_cell b1 3
          have x0' := blk_cell b2 0
          have x1' := blk_cell b2 1
          have q0 := blk_cell b3 0
          have q1 := blk_cell b3 1
          have q2 := blk_cell b3 2
          have q3 := blk_cell b3 3
          have c0 := blk_cell ba 0
          have c1 := blk_cell ba 1
          have c2 := blk_cell ba 2
          have c3 := blk_cell ba 3
          have c4 := blk_cell ba 4
          have d0 := blk_cell bb 0
          have d1 := blk_cell bb 1
          have d2 := blk_cell bb 2
          have d3 := blk_cell bb 3
          have d4 := blk_cell bb 4
          generalize w7.heap.size = B7 at *
          go_wp2_with fail
          refine (Ints_any [0, (yr : Int) + 1 - yr] [0, 1] _ _ _ (ints_two bf) (ints_two bw) (by simp) (by simp)).mono ?_
          rintro e w9 ⟨rfl, hb⟩
          rw [show decide (([0, (yr : Int) + 1 - yr] : List Int) = [0, 1]) = true from decide_eq_true (List.cons_eq_cons.2 ⟨by omega, List.cons_eq_cons.2 ⟨by omega, rfl⟩⟩)]
          clear bf bw
          replace b1 := blk_later hb b1
          replace b2 := blk_later hb b2
          replace b3 := blk_later hb b3
          replace ba := blk_later hb ba
          replace bb := blk_later hb bb
          replace qf := cell_later' hb qf
          replace hb0 := hb0.trans (hb.mono hb0.size)
          clear p0 p1 p2 p3 x0' x1' q0 q1 q2 q3 c0 c1 c2 c3 c4 d0 d1 d2 d3 d4 hb
          generalize w9 = w11 at *
          have p0 := blk_cell b1 0
          have p1 := blk_cell b1 1
          have p2 := blk_cell b1 2
          have p3 := blk_cell b1 3
          have x0' := blk_cell b2 0
          have x1' := blk_cell b2 1
          have q0 := blk_cell b3 0
          have q1 := blk_cell b3 1
          have q2 := blk_cell b3 2
          have q3 := blk_cell b3 3
          have c0 := blk_cell ba 0
          have c1 := blk_cell ba 1
          have c2 := blk_cell ba 2
          have c3 := blk_cell ba 3
          have c4 := blk_cell ba 4
          have d0 := blk_cell bb 0
          have d1 := blk_cell bb 1
          have d2 := blk_cell bb 2
          have d3 := blk_cell bb 3
          have d4 := blk_cell bb 4
          go_wp2_with fail
          refine (awake_any2 (t := t) (blk_later hb0 HW.out)).mono ?_
          rintro e w6 ⟨rfl, hb⟩
          have hb6 := hb0.trans (hb.mono hb0.size)
          clear hb0 hb b1 b2 b3 ba bb qf p0 p1 p2 p3 x0' x1' q0 q1 q2 q3 c0 c1 c2 c3 c4 d0 d1 d2 d3 d4
          go_wp2_with fail
          go_ret
          exact ⟨by first | rfl | (cases yi <;> rfl), hb6⟩
    · skip
      have hb : Below w6.heap.size w6 ((w6.alloc (.cells #[.int .i64 z.sheet, .int .i64 z.col, .int .i64 z.row, .bool z.inner, .bool z.turned] 57)).alloc (.cells #[.int .i64 y.sheet, .int .i64 y.col, .int .i64 y.row, .bool y.inner, .bool y.turned] 57)).drew := (((Below.refl _ _).alloc (Nat.le_refl _) _).alloc (by simp) _).drew
      have ba : (((w6.alloc (.cells #[.int .i64 z.sheet, .int .i64 z.col, .int .i64 z.row, .bool z.inner, .bool z.turned] 57)).alloc (.cells #[.int .i64 y.sheet, .int .i64 y.col, .int .i64 y.row, .bool y.inner, .bool y.turned] 57)).drew).heap[w6.heap.size]? = some (.cells #[.int .i64 z.sheet, .int .i64 z.col, .int .i64 z.row, .bool z.inner, .bool z.turned] 57 (0, 0)) := (heap_alloc_past _ _ _ (by simp)).trans (World.alloc_heap_new _ _)
      have bb : (((w6.alloc (.cells #[.int .i64 z.sheet, .int .i64 z.col, .int .i64 z.row, .bool z.inner, .bool z.turned] 57)).alloc (.cells #[.int .i64 y.sheet, .int .i64 y.col, .int .i64 y.row, .bool y.inner, .bool y.turned] 57)).drew).heap[w6.heap.size + 1]? = some (.cells #[.int .i64 y.sheet, .int .i64 y.col, .int .i64 y.row, .bool y.inner, .bool y.turned] 57 (0, 0)) := heap_alloc_at _ _ _ (by simp)
      clear ar0 ar1 ar2 ar3 ar4 as0 as1 as2 as3 as4 br0 br1 br2 br3 br4 bs0 bs1 bs2 bs3 bs4 r0 r1 r2 r3 r4 s0 s1 s2 s3 s4
      generalize hw9 : ((w6.alloc (.cells #[.int .i64 z.sheet, .int .i64 z.col, .int .i64 z.row, .bool z.inner, .bool z.turned] 57)).alloc (.cells #[.int .i64 y.sheet, .int .i64 y.col, .int .i64 y.row, .bool y.inner, .bool y.turned] 57)).drew = w9 at *
      clear hw9
      replace b1 := blk_later hb b1
      replace b2 := blk_later hb b2
      replace b3 := blk_later hb b3
      replace hb0 := hb0.trans (hb.mono hb0.size)
      clear p0 p1 p2 p3 x0' x1' q0 q1 q2 q3 hb
      generalize w9 = w7 at *
      have p0 := blk_cell b1 0
      have p1 := blk_cell b1 1
      have p2 := blk_cell b1 2
      have p3 := blk_cell b1 3
      have x0' := blk_cell b2 0
      have x1' := blk_cell b2 1
      have q0 := blk_cell b3 0
      have q1 := blk_cell b3 1
      have q2 := blk_cell b3 2
      have q3 := blk_cell b3 3
      have c0 := blk_cell ba 0
      have c1 := blk_cell ba 1
      have c2 := blk_cell ba 2
      have c3 := blk_cell ba 3
      have c4 := blk_cell ba 4
      have d0 := blk_cell bb 0
      have d1 := blk_cell bb 1
      have d2 := blk_cell bb 2
      have d3 := blk_cell bb 3
      have d4 := blk_cell bb 4
      clear HL6 ky
      generalize w6.heap.size = B6 at *
      obtain ⟨m1, m2, -, -⟩ := fine_at HE.out HM.out
      rw [← HN1.out] at m2
      have m3 : m.fmt < (n1 : Int) := by omega
      obtain ⟨b', off, rfl, hb', hc⟩ := HFC.out (fun h => by have := HF.out; rw [h] at this; simp at this)
      have qf : w7.cell? ⟨b', off + m.fmt.toNat * 2 + 1, none⟩ = some (S f'.folds) := cell_later' hb0 (by have := hc m.fmt.toNat f' HF.out 1 _ rfl; simpa using this)
      obtain ⟨M, hM⟩ : ∃ M, f'.folds.length = M + 1 := ⟨f'.folds.length - 1, by have := FN.out.len1; omega⟩
      have hzs : (⟨f'.folds.toArray⟩ : ByteArray).size = M + 1 := (size_bytes f'.folds).trans hM
      have hlb := last_byte FN.out.back hM
      obtain ⟨g1, g2, g3, g4⟩ := G.out
      have hM4 : M < 4 := by have := FN.out.len4; omega
      clear hc hb' G hM
      cases hl : lastF (fdsB f'.folds) with
      | true =>
        rw [hl] at hlb g2
        have hby : ∀ h : M < (⟨f'.folds.toArray⟩ : ByteArray).size, (⟨f'.folds.toArray⟩ : ByteArray)[M]'h = 120 := fun h => by
          obtain ⟨hk, hc⟩ := List.getElem?_eq_some_iff.1 hlb
          rw [if_pos rfl] at hc
          rw [← hc]; rfl
        obtain ⟨g5, g6⟩ := (if_pos (c := (true = true)) rfl).mp g2
        clear g2 hlb
        obtain ⟨ys, yc, yr, yi, yt⟩ := y
        obtain ⟨zs, zc, zr, zi, zt⟩ := z
        dsimp only at g1 g3 g4 g5 g6 c0 c1 c2 c3 c4 d0 d1 d2 d3 d4
        subst g1 g3 g5
        obtain rfl : zi = !yi := by cases yi <;> cases zi <;> simp at g4 ⊢
        clear g4
        rcases g6 with rfl | rfl
        · skip
          go_upto_region 15 with fail
          have hb : Below w7.heap.size w7 ((w7.alloc (.cells #[.int .i64 ((zc : Int) + 1 - zc), .int .i64 (0)] 3)).alloc (.cells #[.int .i64 0, .int .i64 1] 3)) := ((Below.refl _ _).alloc (Nat.le_refl _) _).alloc (by simp) _
          have bf : ((w7.alloc (.cells #[.int .i64 ((zc : Int) + 1 - zc), .int .i64 (0)] 3)).alloc (.cells #[.int .i64 0, .int .i64 1] 3)).heap[w7.heap.size]? = some (.cells #[.int .i64 ((zc : Int) + 1 - zc), .int .i64 (0)] 3 (0, 0)) := (heap_alloc_past _ _ _ (by simp)).trans (World.alloc_heap_new _ _)
          have bw : ((w7.alloc (.cells #[.int .i64 ((zc : Int) + 1 - zc), .int .i64 (0)] 3)).alloc (.cells #[.int .i64 0, .int .i64 1] 3)).heap[w7.heap.size + 1]? = some (.cells #[.int .i64 0, .int .i64 1] 3 (0, 0)) := heap_alloc_at _ _ _ (by simp)
          generalize hw9 : ((w7.alloc (.cells #[.int .i64 ((zc : Int) + 1 - zc), .int .i64 (0)] 3)).alloc (.cells #[.int .i64 0, .int .i64 1] 3)) = w9 at *
          clear hw9
          replace b1 := blk_later hb b1
          replace b2 := blk_later hb b2
          replace b3 := blk_later hb b3
          replace ba := blk_later hb ba
          replace bb := blk_later hb bb
          replace qf := cell_later' hb qf
          replace hb0 := hb0.trans (hb.mono hb0.size)
          clear p0 p1 p2 p3 x0' x1' q0 q1 q2 q3 c0 c1 c2 c3 c4 d0 d1 d2 d3 d4 hb
          generalize w9 = w8 at *
          have p0 := blk_cell b1 0
          have p1 := blk_cell b1 1
          have p2 := blk_cell b1 2
          have p3 := blk_cell b1 3
          have x0' := blk_cell b2 0
          have x1' := blk_cell b2 1
          have q0 := blk_cell b3 0
          have q1 := blk_cell b3 1
          have q2 := blk_cell b3 2
          have q3 := blk_cell b3 3
          have c0 := blk_cell ba 0
          have c1 := blk_cell ba 1
          have c2 := blk_cell ba 2
          have c3 := blk_cell ba 3
          have c4 := blk_cell ba 4
          have d0 := blk_cell bb 0
          have d1 := blk_cell bb 1
          have d2 := blk_cell bb 2
          have d3 := blk_cell bb 3
          have d4 := blk_cell bb 4
          generalize w7.heap.size = B7 at *
          go_upto_region 18 with fail
          have hb : Below w8.heap.size w8 (w8.alloc (.cells #[.int .i64 1, .int .i64 0] 3)) := (Below.refl _ _).alloc (Nat.le_refl _) _
          have bv : (w8.alloc (.cells #[.int .i64 1, .int .i64 0] 3)).heap[w8.heap.size]? = some (.cells #[.int .i64 1, .int .i64 0] 3 (0, 0)) := World.alloc_heap_new _ _
          replace bf := blk_later hb bf
          clear bw
          generalize hw9 : (w8.alloc (.cells #[.int .i64 1, .int .i64 0] 3)) = w9 at *
          clear hw9
          replace b1 := blk_later hb b1
          replace b2 := blk_later hb b2
          replace b3 := blk_later hb b3
          replace ba := blk_later hb ba
          replace bb := blk_later hb bb
          replace qf := cell_later' hb qf
          replace hb0 := hb0.trans (hb.mono hb0.size)
          clear p0 p1 p2 p3 x0' x1' q0 q1 q2 q3 c0 c1 c2 c3 c4 d0 d1 d2 d3 d4 hb
          generalize w9 = w10 at *
          have p0 := blk_cell b1 0
          have p1 := blk_cell b1 1
          have p2 := blk_cell b1 2
          have p3 := blk_cell b1 3
          have x0' := blk_cell b2 0
          have x1' := blk_cell b2 1
          have q0 := blk_cell b3 0
          have q1 := blk_cell b3 1
          have q2 := blk_cell b3 2
          have q3 := blk_cell b3 3
          have c0 := blk_cell ba 0
          have c1 := blk_cell ba 1
          have c2 := blk_cell ba 2
          have c3 := blk_cell ba 3
          have c4 := blk_cell ba 4
          have d0 := blk_cell bb 0
          have d1 := blk_cell bb 1
          have d2 := blk_cell bb 2
          have d3 := blk_cell bb 3
          have d4 := blk_cell bb 4
          generalize w8.heap.size = B8 at *
          go_wp2_with fail
          refine (Ints_any [(zc : Int) + 1 - zc, 0] [1, 0] _ _ _ (ints_two bf) (ints_two bv) (by simp) (by simp)).mono ?_
          rintro e w9 ⟨rfl, hb⟩
          rw [show decide (([(zc : Int) + 1 - zc, 0] : List Int) = [1, 0]) = true from decide_eq_true (List.cons_eq_cons.2 ⟨by omega, List.cons_eq_cons.2 ⟨by omega, rfl⟩⟩)]
          clear bf bv
          replace b1 := blk_later hb b1
          replace b2 := blk_later hb b2
          replace b3 := blk_later hb b3
          replace ba := blk_later hb ba
          replace bb := blk_later hb bb
          replace qf := cell_later' hb qf
          replace hb0 := hb0.trans (hb.mono hb0.size)
          clear p0 p1 p2 p3 x0' x1' q0 q1 q2 q3 c0 c1 c2 c3 c4 d0 d1 d2 d3 d4 hb
          generalize w9 = w11 at *
          have p0 := blk_cell b1 0
          have p1 := blk_cell b1 1
          have p2 := blk_cell b1 2
          have p3 := blk_cell b1 3
          have x0' := blk_cell b2 0
          have x1' := blk_cell b2 1
          have q0 := blk_cell b3 0
          have q1 := blk_cell b3 1
          have q2 := blk_cell b3 2
          have q3 := blk_cell b3 3
          have c0 := blk_cell ba 0
          have c1 := blk_cell ba 1
          have c2 := blk_cell ba 2
          have c3 := blk_cell ba 3
          have c4 := blk_cell ba 4
          have d0 := blk_cell bb 0
          have d1 := blk_cell bb 1
          have d2 := blk_cell bb 2
          have d3 := blk_cell bb 3
          have d4 := blk_cell bb 4
          go_wp2_with fail
          refine (awake_any2 (t := t) (blk_later hb0 HW.out)).mono ?_
          rintro e w6 ⟨rfl, hb⟩
          have hb6 := hb0.trans (hb.mono hb0.size)
          clear hb0 hb b1 b2 b3 ba bb qf p0 p1 p2 p3 x0' x1' q0 q1 q2 q3 c0 c1 c2 c3 c4 d0 d1 d2 d3 d4
          go_wp2_with fail
          go_ret
          exact ⟨by first | rfl | (cases yi <;> rfl), hb6⟩
        · skip
          go_upto_region 15 with fail
          have hb : Below w7.heap.size w7 ((w7.alloc (.cells #[.int .i64 ((yc : Int) + 1 - yc), .int .i64 (0)] 3)).alloc (.cells #[.int .i64 0, .int .i64 1] 3)) := ((Below.refl _ _).alloc (Nat.le_refl _) _).alloc (by simp) _
          have bf : ((w7.alloc (.cells #[.int .i64 ((yc : Int) + 1 - yc), .int .i64 (0)] 3)).alloc (.cells #[.int .i64 0, .int .i64 1] 3)).heap[w7.heap.size]? = some (.cells #[.int .i64 ((yc : Int) + 1 - yc), .int .i64 (0)] 3 (0, 0)) := (heap_alloc_past _ _ _ (by simp)).trans (World.alloc_heap_new _ _)
          have bw : ((w7.alloc (.cells #[.int .i64 ((yc : Int) + 1 - yc), .int .i64 (0)] 3)).alloc (.cells #[.int .i64 0, .int .i64 1] 3)).heap[w7.heap.size + 1]? = some (.cells #[.int .i64 0, .int .i64 1] 3 (0, 0)) := heap_alloc_at _ _ _ (by simp)
          generalize hw9 : ((w7.alloc (.cells #[.int .i64 ((yc : Int) + 1 - yc), .int .i64 (0)] 3)).alloc (.cells #[.int .i64 0, .int .i64 1] 3)) = w9 at *
          clear hw9
          replace b1 := blk_later hb b1
          replace b2 := blk_later hb b2
          replace b3 := blk_later hb b3
          replace ba := blk_later hb ba
          replace bb := blk_later hb bb
          replace qf := cell_later' hb qf
          replace hb0 := hb0.trans (hb.mono hb0.size)
          clear p0 p1 p2 p3 x0' x1' q0 q1 q2 q3 c0 c1 c2 c3 c4 d0 d1 d2 d3 d4 hb
          generalize w9 = w8 at *
          have p0 := blk_cell b1 0
          have p1 := blk_cell b1 1
          have p2 := blk_cell b1 2
          have p3 := blk_cell b1 3
          have x0' := blk_cell b2 0
          have x1' := blk_cell b2 1
          have q0 := blk_cell b3 0
          have q1 := blk_cell b3 1
          have q2 := blk_cell b3 2
          have q3 := blk_cell b3 3
          have c0 := blk_cell ba 0
          have c1 := blk_cell ba 1
          have c2 := blk_cell ba 2
          have c3 := blk_cell ba 3
          have c4 := blk_cell ba 4
          have d0 := blk_cell bb 0
          have d1 := blk_cell bb 1
          have d2 := blk_cell bb 2
          have d3 := blk_cell bb 3
          have d4 := blk_cell bb 4
          generalize w7.heap.size = B7 at *
          go_upto_region 18 with fail
          have hb : Below w8.heap.size w8 (w8.alloc (.cells #[.int .i64 1, .int .i64 0] 3)) := (Below.refl _ _).alloc (Nat.le_refl _) _
          have bv : (w8.alloc (.cells #[.int .i64 1, .int .i64 0] 3)).heap[w8.heap.size]? = some (.cells #[.int .i64 1, .int .i64 0] 3 (0, 0)) := World.alloc_heap_new _ _
          replace bf := blk_later hb bf
          clear bw
          generalize hw9 : (w8.alloc (.cells #[.int .i64 1, .int .i64 0] 3)) = w9 at *
          clear hw9
          replace b1 := blk_later hb b1
          replace b2 := blk_later hb b2
          replace b3 := blk_later hb b3
          replace ba := blk_later hb ba
          replace bb := blk_later hb bb
          replace qf := cell_later' hb qf
          replace hb0 := hb0.trans (hb.mono hb0.size)
          clear p0 p1 p2 p3 x0' x1' q0 q1 q2 q3 c0 c1 c2 c3 c4 d0 d1 d2 d3 d4 hb
          generalize w9 = w10 at *
          have p0 := blk_cell b1 0
          have p1 := blk_cell b1 1
          have p2 := blk_cell b1 2
          have p3 := blk_cell b1 3
          have x0' := blk_cell b2 0
          have x1' := blk_cell b2 1
          have q0 := blk_cell b3 0
          have q1 := blk_cell b3 1
          have q2 := blk_cell b3 2
          have q3 := blk_cell b3 3
          have c0 := blk_cell ba 0
          have c1 := blk_cell ba 1
          have c2 := blk_cell ba 2
          have c3 := blk_cell ba 3
          have c4 := blk_cell ba 4
          have d0 := blk_cell bb 0
          have d1 := blk_cell bb 1
          have d2 := blk_cell bb 2
          have d3 := blk_cell bb 3
          have d4 := blk_cell bb 4
          generalize w8.heap.size = B8 at *
          go_wp2_with fail
          refine (Ints_any [(yc : Int) + 1 - yc, 0] [1, 0] _ _ _ (ints_two bf) (ints_two bv) (by simp) (by simp)).mono ?_
          rintro e w9 ⟨rfl, hb⟩
          rw [show decide (([(yc : Int) + 1 - yc, 0] : List Int) = [1, 0]) = true from decide_eq_true (List.cons_eq_cons.2 ⟨by omega, List.cons_eq_cons.2 ⟨by omega, rfl⟩⟩)]
          clear bf bv
          replace b1 := blk_later hb b1
          replace b2 := blk_later hb b2
          replace b3 := blk_later hb b3
          replace ba := blk_later hb ba
          replace bb := blk_later hb bb
          replace qf := cell_later' hb qf
          replace hb0 := hb0.trans (hb.mono hb0.size)
          clear p0 p1 p2 p3 x0' x1' q0 q1 q2 q3 c0 c1 c2 c3 c4 d0 d1 d2 d3 d4 hb
          generalize w9 = w11 at *
          have p0 := blk_cell b1 0
          have p1 := blk_cell b1 1
          have p2 := blk_cell b1 2
          have p3 := blk_cell b1 3
          have x0' := blk_cell b2 0
          have x1' := blk_cell b2 1
          have q0 := blk_cell b3 0
          have q1 := blk_cell b3 1
          have q2 := blk_cell b3 2
          have q3 := blk_cell b3 3
          have c0 := blk_cell ba 0
          have c1 := blk_cell ba 1
          have c2 := blk_cell ba 2
          have c3 := blk_cell ba 3
          have c4 := blk_cell ba 4
          have d0 := blk_cell bb 0
          have d1 := blk_cell bb 1
          have d2 := blk_cell bb 2
          have d3 := blk_cell bb 3
          have d4 := blk_cell bb 4
          go_wp2_with fail
          refine (awake_any2 (t := t) (blk_later hb0 HW.out)).mono ?_
          rintro e w6 ⟨rfl, hb⟩
          have hb6 := hb0.trans (hb.mono hb0.size)
          clear hb0 hb b1 b2 b3 ba bb qf p0 p1 p2 p3 x0' x1' q0 q1 q2 q3 c0 c1 c2 c3 c4 d0 d1 d2 d3 d4
          go_wp2_with fail
          go_ret
          exact ⟨by first | rfl | (cases yi <;> rfl), hb6⟩
      | false =>
        rw [hl] at hlb g2
        have hby : ∀ h : M < (⟨f'.folds.toArray⟩ : ByteArray).size, (⟨f'.folds.toArray⟩ : ByteArray)[M]'h = 121 := fun h => by
          obtain ⟨hk, hc⟩ := List.getElem?_eq_some_iff.1 hlb
          rw [if_neg (by simp)] at hc
          rw [← hc]; rfl
        have h121 : ((((121 : UInt8).toNat : Nat) : Int) == 120) = false := rfl
        have h122 : ((121 : Int) == 120) = false := rfl
        obtain ⟨g5, g6⟩ := (if_neg (c := (false = true)) (by simp)).mp g2
        clear g2 hlb
        obtain ⟨ys, yc, yr, yi, yt⟩ := y
        obtain ⟨zs, zc, zr, zi, zt⟩ := z
        dsimp only at g1 g3 g4 g5 g6 c0 c1 c2 c3 c4 d0 d1 d2 d3 d4
        subst g1 g3 g5
        obtain rfl : zi = !yi := by cases yi <;> cases zi <;> simp at g4 ⊢
        clear g4
        rcases g6 with rfl | rfl
        · skip
          go_upto_region 15 with fail
          have hb : Below w7.heap.size w7 ((w7.alloc (.cells #[.int .i64 (0), .int .i64 ((zr : Int) + 1 - zr)] 3)).alloc (.cells #[.int .i64 0, .int .i64 1] 3)) := ((Below.refl _ _).alloc (Nat.le_refl _) _).alloc (by simp) _
          have bf : ((w7.alloc (.cells #[.int .i64 (0), .int .i64 ((zr : Int) + 1 - zr)] 3)).alloc (.cells #[.int .i64 0, .int .i64 1] 3)).heap[w7.heap.size]? = some (.cells #[.int .i64 (0), .int .i64 ((zr : Int) + 1 - zr)] 3 (0, 0)) := (heap_alloc_past _ _ _ (by simp)).trans (World.alloc_heap_new _ _)
          have bw : ((w7.alloc (.cells #[.int .i64 (0), .int .i64 ((zr : Int) + 1 - zr)] 3)).alloc (.cells #[.int .i64 0, .int .i64 1] 3)).heap[w7.heap.size + 1]? = some (.cells #[.int .i64 0, .int .i64 1] 3 (0, 0)) := heap_alloc_at _ _ _ (by simp)
          generalize hw9 : ((w7.alloc (.cells #[.int .i64 (0), .int .i64 ((zr : Int) + 1 - zr)] 3)).alloc (.cells #[.int .i64 0, .int .i64 1] 3)) = w9 at *
          clear hw9
          replace b1 := blk_later hb b1
          replace b2 := blk_later hb b2
          replace b3 := blk_later hb b3
          replace ba := blk_later hb ba
          replace bb := blk_later hb bb
          replace qf := cell_later' hb qf
          replace hb0 := hb0.trans (hb.mono hb0.size)
          clear p0 p1 p2 p3 x0' x1' q0 q1 q2 q3 c0 c1 c2 c3 c4 d0 d1 d2 d3 d4 hb
          generalize w9 = w8 at *
          have p0 := blk_cell b1 0
          have p1 := blk_cell b1 1
          have p2 := blk_cell b1 2
          have p3 := blk_cell b1 3
          have x0' := blk_cell b2 0
          have x1' := blk_cell b2 1
          have q0 := blk_cell b3 0
          have q1 := blk_cell b3 1
          have q2 := blk_cell b3 2
          have q3 := blk_cell b3 3
          have c0 := blk_cell ba 0
          have c1 := blk_cell ba 1
          have c2 := blk_cell ba 2
          have c3 := blk_cell ba 3
          have c4 := blk_cell ba 4
          have d0 := blk_cell bb 0
          have d1 := blk_cell bb 1
          have d2 := blk_cell bb 2
          have d3 := blk_cell bb 3
          have d4 := blk_cell bb 4
          generalize w7.heap.size = B7 at *
          go_wp2_with fail
          refine (Ints_any [0, (zr : Int) + 1 - zr] [0, 1] _ _ _ (ints_two bf) (ints_two bw) (by simp) (by simp)).mono ?_
          rintro e w9 ⟨rfl, hb⟩
          rw [show decide (([0, (zr : Int) + 1 - zr] : List Int) = [0, 1]) = true from decide_eq_true (List.cons_eq_cons.2 ⟨by omega, List.cons_eq_cons.2 ⟨by omega, rfl⟩⟩)]
          clear bf bw
          replace b1 := blk_later hb b1
          replace b2 := blk_later hb b2
          replace b3 := blk_later hb b3
          replace ba := blk_later hb ba
          replace bb := blk_later hb bb
          replace qf := cell_later' hb qf
          replace hb0 := hb0.trans (hb.mono hb0.size)
          clear p0 p1 p2 p3 x0' x1' q0 q1 q2 q3 c0 c1 c2 c3 c4 d0 d1 d2 d3 d4 hb
          generalize w9 = w11 at *
          have p0 := blk_cell b1 0
          have p1 := blk_cell b1 1
          have p2 := blk_cell b1 2
          have p3 := blk_cell b1 3
          have x0' := blk_cell b2 0
          have x1' := blk_cell b2 1
          have q0 := blk_cell b3 0
          have q1 := blk_cell b3 1
          have q2 := blk_cell b3 2
          have q3 := blk_cell b3 3
          have c0 := blk_cell ba 0
          have c1 := blk_cell ba 1
          have c2 := blk_cell ba 2
          have c3 := blk_cell ba 3
          have c4 := blk_cell ba 4
          have d0 := blk_cell bb 0
          have d1 := blk_cell bb 1
          have d2 := blk_cell bb 2
          have d3 := blk_cell bb 3
          have d4 := blk_cell bb 4
          go_wp2_with fail
          refine (awake_any2 (t := t) (blk_later hb0 HW.out)).mono ?_
          rintro e w6 ⟨rfl, hb⟩
          have hb6 := hb0.trans (hb.mono hb0.size)
          clear hb0 hb b1 b2 b3 ba bb qf p0 p1 p2 p3 x0' x1' q0 q1 q2 q3 c0 c1 c2 c3 c4 d0 d1 d2 d3 d4
          go_wp2_with fail
          go_ret
          exact ⟨by first | rfl | (cases yi <;> rfl), hb6⟩
        · skip
          go_upto_region 15 with fail
          have hb : Below w7.heap.size w7 ((w7.alloc (.cells #[.int .i64 (0), .int .i64 ((yr : Int) + 1 - yr)] 3)).alloc (.cells #[.int .i64 0, .int .i64 1] 3)) := ((Below.refl _ _).alloc (Nat.le_refl _) _).alloc (by simp) _
          have bf : ((w7.alloc (.cells #[.int .i64 (0), .int .i64 ((yr : Int) + 1 - yr)] 3)).alloc (.cells #[.int .i64 0, .int .i64 1] 3)).heap[w7.heap.size]? = some (.cells #[.int .i64 (0), .int .i64 ((yr : Int) + 1 - yr)] 3 (0, 0)) := (heap_alloc_past _ _ _ (by simp)).trans (World.alloc_heap_new _ _)
          have bw : ((w7.alloc (.cells #[.int .i64 (0), .int .i64 ((yr : Int) + 1 - yr)] 3)).alloc (.cells #[.int .i64 0, .int .i64 1] 3)).heap[w7.heap.size + 1]? = some (.cells #[.int .i64 0, .int .i64 1] 3 (0, 0)) := heap_alloc_at _ _ _ (by simp)
          generalize hw9 : ((w7.alloc (.cells #[.int .i64 (0), .int .i64 ((yr : Int) + 1 - yr)] 3)).alloc (.cells #[.int .i64 0, .int .i64 1] 3)) = w9 at *
          clear hw9
          replace b1 := blk_later hb b1
          replace b2 := blk_later hb b2
          replace b3 := blk_later hb b3
          replace ba := blk_later hb ba
          replace bb := blk_later hb bb
          replace qf := cell_later' hb qf
          replace hb0 := hb0.trans (hb.mono hb0.size)
          clear p0 p1 p2 p3 x0' x1' q0 q1 q2 q3 c0 c1 c2 c3 c4 d0 d1 d2 d3 d4 hb
          generalize w9 = w8 at *
          have p0 := blk_cell b1 0
          have p1 := blk_cell b1 1
          have p2 := blk_cell b1 2
          have p3 := blk_cell b1 3
          have x0' := blk_cell b2 0
          have x1' := blk_cell b2 1
          have q0 := blk_cell b3 0
          have q1 := blk_cell b3 1
          have q2 := blk_cell b3 2
          have q3 := blk_cell b3 3
          have c0 := blk_cell ba 0
          have c1 := blk_cell ba 1
          have c2 := blk_cell ba 2
          have c3 := blk_cell ba 3
          have c4 := blk_cell ba 4
          have d0 := blk_cell bb 0
          have d1 := blk_cell bb 1
          have d2 := blk_cell bb 2
          have d3 := blk_cell bb 3
          have d4 := blk_cell bb 4
          generalize w7.heap.size = B7 at *
          go_wp2_with fail
          refine (Ints_any [0, (yr : Int) + 1 - yr] [0, 1] _ _ _ (ints_two bf) (ints_two bw) (by simp) (by simp)).mono ?_
          rintro e w9 ⟨rfl, hb⟩
          rw [show decide (([0, (yr : Int) + 1 - yr] : List Int) = [0, 1]) = true from decide_eq_true (List.cons_eq_cons.2 ⟨by omega, List.cons_eq_cons.2 ⟨by omega, rfl⟩⟩)]
          clear bf bw
          replace b1 := blk_later hb b1
          replace b2 := blk_later hb b2
          replace b3 := blk_later hb b3
          replace ba := blk_later hb ba
          replace bb := blk_later hb bb
          replace qf := cell_later' hb qf
          replace hb0 := hb0.trans (hb.mono hb0.size)
          clear p0 p1 p2 p3 x0' x1' q0 q1 q2 q3 c0 c1 c2 c3 c4 d0 d1 d2 d3 d4 hb
          generalize w9 = w11 at *
          have p0 := blk_cell b1 0
          have p1 := blk_cell b1 1
          have p2 := blk_cell b1 2
          have p3 := blk_cell b1 3
          have x0' := blk_cell b2 0
          have x1' := blk_cell b2 1
          have q0 := blk_cell b3 0
          have q1 := blk_cell b3 1
          have q2 := blk_cell b3 2
          have q3 := blk_cell b3 3
          have c0 := blk_cell ba 0
          have c1 := blk_cell ba 1
          have c2 := blk_cell ba 2
          have c3 := blk_cell ba 3
          have c4 := blk_cell ba 4
          have d0 := blk_cell bb 0
          have d1 := blk_cell bb 1
          have d2 := blk_cell bb 2
          have d3 := blk_cell bb 3
          have d4 := blk_cell bb 4
          go_wp2_with fail
          refine (awake_any2 (t := t) (blk_later hb0 HW.out)).mono ?_
          rintro e w6 ⟨rfl, hb⟩
          have hb6 := hb0.trans (hb.mono hb0.size)
          clear hb0 hb b1 b2 b3 ba bb qf p0 p1 p2 p3 x0' x1' q0 q1 q2 q3 c0 c1 c2 c3 c4 d0 d1 d2 d3 d4
          go_wp2_with fail
          go_ret
          exact ⟨by first | rfl | (cases yi <;> rfl), hb6⟩
  · have e0 : (ep == 0) = false := by simp [h0]
    clear HEP
    go_wp2_with fail
    refine (awake_any2 (t := t) (blk_later hb0 HW.out)).mono ?_
    rintro e w6 ⟨rfl, hb⟩
    have hb6 := hb0.trans (hb.mono hb0.size)
    clear hb0 hb b1 b2 p0 p1 p2 p3 x0' x1'
    go_wp2_with fail
    go_ret
    exact ⟨rfl, hb6⟩
end Go.Proofs.YtdpiemgdenfkoaaGreatDoor
